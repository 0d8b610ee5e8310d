/-
  Clone, Over, Active, Job.
-/
import Derived.Test.YtahiaifdfgkemaaJbF
import Derived.Laws.ResultCell
import Derived.Laws.Rows
import Derived.Lib.SliceRun
namespace Go.Proofs.Ytahiaifdfgkemaa
open Go.RowKit
set_option linter.unusedVariables false
set_option linter.unusedSimpArgs false

theorem Keeps.lo' {S : Nat → Prop} {w w' : World} {lo : Nat} (h : Keeps S w w') (hl : lo ≤ w.heap.size) (hS : ∀ k, S k → lo ≤ k) : Below lo w w' := ⟨h.os, h.tape, h.output, h.size, fun k hk => h.block k (by omega) (fun e => by have := hS k e; omega)⟩
theorem own_grownJ {w w1 w' : World} {n : Nat} {xs : List Value} {v : Value} (h : w1.ownsRow w.heap.size 44 6 v n xs) (hg : w1.grownBy w' v.ownBlock) (hb : Below w.heap.size w w1) : Below w.heap.size w w' :=
  hb.trans ((Keeps.of_grown hg).lo' hb.size fun k e => (World.ownsRow.lt h k e).1)

set_option maxRecDepth 100000 in
set_option maxHeartbeats 2000000 in
theorem cloneJ_any (w : World) (lo : Nat) (v : Value) (l : List Jb) (h : OwnJ w lo v l) (hl : l.length ≤ 1000) :
    Calls Try.prog 25 #[v] w fun e w' => ∃ v', e = .returned v' ∧ OwnJ w' w.heap.size v' l ∧ Below w.heap.size w w' := by
  rcases owns_shape h with ⟨rfl, h0⟩ | ⟨g, c, rfl, hg1, hg2, hc1, hc2⟩
  · have hl0 : l = [] := List.eq_nil_of_length_eq_zero h0
    subst hl0
    clear h
    have hq : ∀ (w : World) (a : Option Addr) (n c : Nat), (binOp .eql 41 (.slice a n c) (.slice none 0 0)).run Try.prog w = .ok (.bool a.isNone) w := fun w a n c => Lib.run_eql_slice_nil w _ _ a n c 0 0 Try.underlying41
    go_enter Try.func25, Try.ntmps25
    go_wp2
    go_ret
    exact ⟨_, rfl, World.ownsRow_nil _ _ _ _, Below.refl _ _⟩
  · obtain ⟨n, hn⟩ : ∃ n, n = l.length := ⟨_, rfl⟩
    obtain ⟨w1, hw1⟩ : ∃ w1, w1 = w.alloc (.cells #[] 44) := ⟨_, rfl⟩
    have hb1 : Below w.heap.size w w1 := by rw [hw1]; exact (Below.refl _ _).alloc (Nat.le_refl _) _
    have HO := hid (show w1.ownsRow w.heap.size 44 6 (.slice (some ⟨w.heap.size, 0, none⟩) 0 0) 0 [] by rw [hw1]; exact World.ownsRow_made w #[] 0 (Nat.le_refl _) (Nat.zero_le _) rfl)
    have HS := hid (show SrcC w1 (.slice (some ⟨g, 0, none⟩) n c) n (jcels l) by rw [hn]; exact SrcC.of_own (owns_below h hb1))
    have HL := hid (show (jcels l).length = n * 6 by rw [jcels_len, hn])
    have HB := hid hb1
    have hs1 : w.heap.size ≤ w1.heap.size := hb1.size
    have HN := hid hn
    have HK := hid (show n ≤ 1000 by omega)
    rw [← hn]
    rw [hw1] at HO HS HB hs1
    have HW := hid hw1
    clear h hb1 hw1 hn hl
    have hq : ∀ (w : World) (a : Option Addr) (n c : Nat), (binOp .eql 41 (.slice a n c) (.slice none 0 0)).run Try.prog w = .ok (.bool a.isNone) w := fun w a n c => Lib.run_eql_slice_nil w _ _ a n c 0 0 Try.underlying41
    go_enter Try.func25, Try.ntmps25
    go_wp2_with (first
      | (at_builtin; (refine appsw (by rfl) 41 44 (.tmp 5) (.tmp 6) rfl w.heap.size 6 40 _ Try.underlying41 infoJ rfl (by decide) (.slice (some ⟨w.heap.size, 0, none⟩) 0 0) (.slice (some ⟨g, 0, none⟩) n c) 0 n n [] (jcels l) rfl rfl HO.out HS.out HL.out (jcels_one _) (by omega) (by have := HK.out; omega) (by have := HK.out; omega) hs1 ?_); intro ad cp w2 ho hg; have HO2 := hid ho; have HB2 := hid (own_grownJ HO.out hg HB.out))
      | fail)
    go_ret
    refine ⟨_, rfl, ?_, HB2.out⟩
    have := HO2.out
    rw [List.nil_append, HN.out] at this
    rw [HN.out]
    exact this

set_option maxRecDepth 100000 in
set_option maxHeartbeats 2000000 in
theorem jover_any (w : World) (lo b : Nat) (va vo : Value) (t : Tb) (h : TbAt w lo b va vo t) :
    Calls Try.prog 11 #[.pointer (some ⟨b, 0, none⟩)] w fun e w' => ∃ v', e = .returned v' ∧ OwnJ w' w.heap.size v' t.over ∧ Below w.heap.size w w' := by
  have HC := hid (cloneJ_any w lo vo t.over h.oo h.lv)
  have c3 := h.c3
  clear h
  go_enter Try.func11, Try.ntmps11
  go_wp2_with fail
  refine HC.out.mono ?_
  rintro e w1 ⟨v', rfl, ho, hb⟩
  have HO := hid ho
  have HB := hid hb
  clear ho hb
  go_wp2_with fail
  go_ret
  exact ⟨_, rfl, HO.out, HB.out⟩

set_option maxRecDepth 100000 in
set_option maxHeartbeats 2000000 in
theorem jactive_any (w : World) (lo b : Nat) (va vo : Value) (t : Tb) (h : TbAt w lo b va vo t) :
    Calls Try.prog 12 #[.pointer (some ⟨b, 0, none⟩)] w fun e w' => ∃ v', e = .returned v' ∧ OwnJ w' w.heap.size v' t.act ∧ Below w.heap.size w w' := by
  have HC := hid (cloneJ_any w lo va t.act h.oa h.la)
  have c2 := h.c2
  clear h
  go_enter Try.func12, Try.ntmps12
  go_wp2_with fail
  refine HC.out.mono ?_
  rintro e w1 ⟨v', rfl, ho, hb⟩
  have HO := hid ho
  have HB := hid hb
  clear ho hb
  go_wp2_with fail
  go_ret
  exact ⟨_, rfl, HO.out, HB.out⟩

def jzero : Jb := (0, 0, 0, 0, 0, 0)
def Tb.job (t : Tb) (z : Nat) : Jb × Bool :=
  match pos t.act z with
  | some i => (t.act.getD i jzero, true)
  | none => match pos t.over z with
    | some i => (t.over.getD i jzero, true)
    | none => (jzero, false)
theorem results_cellJ {fn : Func} {p u : Tmp} {ty : TypeId} (h : fn.results = #[.cell p ty, .tmp u]) (tmps : Array Value) (w : World) (v : Value) (g : Nat) (t : TypeId) (cs : Array Value) (fr : Nat × Nat) (fs : Array Field)
    (hp : tmps.getD p undef = .pointer (some ⟨g, 0, none⟩)) (hv : tmps.getD u undef = v) (hg : w.heap[g]? = some (.cells cs t fr))
    (hu : Try.prog.underlying ty = some (.struct fs)) (hi : (Try.prog.info? ty).map (·.size) = some cs.size) :
    (results fn tmps).run Try.prog w = .ok (.tuple #[.agg cs, v]) w := by
  rw [results_cell_tmp h, hp, hv]
  simp [asAddr, run_loadVar_row w g t ty cs fr (.struct fs) hg hu rfl hi]
theorem set6_heap {w : World} {g : Nat} {a b c d e f A B C D E F : Value} {t : TypeId} (h : w.heap[g]? = some (.cells #[a, b, c, d, e, f] t (0, 0))) : ((((((w.setCell ⟨g, 0, none⟩ A).setCell ⟨g, 1, none⟩ B).setCell ⟨g, 2, none⟩ C).setCell ⟨g, 3, none⟩ D).setCell ⟨g, 4, none⟩ E).setCell ⟨g, 5, none⟩ F).heap[g]? = some (.cells #[A, B, C, D, E, F] t (0, 0)) := by
  rw [heap_setCell_arrJ _ _ _ _ _ _ _ (heap_setCell_arrJ _ _ _ _ _ _ _ (heap_setCell_arrJ _ _ _ _ _ _ _ (heap_setCell_arrJ _ _ _ _ _ _ _ (heap_setCell_arrJ _ _ _ _ _ _ _ (heap_setCell_arrJ _ _ _ _ _ _ _ h)))))]; simp
theorem set6_below {w w' : World} {g n : Nat} {A B C D E F : Value} (h : Below n w w') (hg : n ≤ g) : Below n w ((((((w'.setCell ⟨g, 0, none⟩ A).setCell ⟨g, 1, none⟩ B).setCell ⟨g, 2, none⟩ C).setCell ⟨g, 3, none⟩ D).setCell ⟨g, 4, none⟩ E).setCell ⟨g, 5, none⟩ F) :=
  (((((h.setCell (p := ⟨g, 0, none⟩) hg A).setCell (p := ⟨g, 1, none⟩) hg B).setCell (p := ⟨g, 2, none⟩) hg C).setCell (p := ⟨g, 3, none⟩) hg D).setCell (p := ⟨g, 4, none⟩) hg E).setCell (p := ⟨g, 5, none⟩) hg F

set_option maxRecDepth 100000 in
set_option maxHeartbeats 4000000 in
theorem job_any (w : World) (lo b z : Nat) (va vo : Value) (t : Tb) (h : TbAt w lo b va vo t) :
    Calls Try.prog 17 #[.pointer (some ⟨b, 0, none⟩), .int .u32 (z : Int)] w fun e w' => e = .returned (.tuple #[jv (t.job z).1, .bool (t.job z).2]) ∧ Below w.heap.size w w' := by
  obtain ⟨aa, ca, eva, hca1, hca2⟩ := owns_slice h.oa
  obtain ⟨ao, co, evo, hco1, hco2⟩ := owns_slice h.oo
  subst eva evo
  have H := hid h
  have hlb := h.lt
  obtain ⟨w1, hw1⟩ : ∃ w1, w1 = w.alloc (.cells #[.int .u32 0, .int .u8 0, .int .i64 0, .int .i64 0, .int .u8 0, .int .i64 0] 44) := ⟨_, rfl⟩
  have hb1 : Below w.heap.size w w1 := by rw [hw1]; exact (Below.refl _ _).alloc (Nat.le_refl _) _
  have HR := hid (show w1.heap[w.heap.size]? = some (.cells #[.int .u32 0, .int .u8 0, .int .i64 0, .int .i64 0, .int .u8 0, .int .i64 0] 44 (0, 0)) by rw [hw1]; exact heap_alloc_new w _)
  have hs1 : w1.heap.size = w.heap.size + 1 := by rw [hw1]; simp
  have H1 := hid (h.below hb1)
  have HB1 := hid hb1
  have HS1 := hid hs1
  clear h hb1 hs1
  go_enter Try.func17, Try.ntmps17
  go_upto_region 3 with (fail)
  rw [← hw1]
  clear hw1
  refine Orders.begins (C := []) (by kernel_rfl) ?_
  refine Orders.inv_at (I := fun L A a w => ∃ (b0 b1 b2 b3 b4 b5 b6 b7 b8 b9 b10 : Bool) (v12 v13 v14 v15 v16 v17 v18 v19 v20 v21 v22 : Value), L = #[b0, b1, b2, b3, b4, b5, b6, b7, b8, b9, b10] ∧ a = (((((((((((A.put (some 12) v12).put (some 13) v13).put (some 14) v14).put (some 15) v15).put (some 16) v16).put (some 17) v17).put (some 18) v18).put (some 19) v19).put (some 20) v20).put (some 21) v21).put (some 22) v22) ∧ Below w1.heap.size w1 w ∧ (b8 = false → w.heap.size = w1.heap.size) ∧ (b8 = true → w.heap[w1.heap.size]? = some (.cells #[(.slice aa t.act.length ca), (.slice ao t.over.length co)] 41 (0, 0))) ∧ (b0 = true → v12 = .pointer (some ⟨b, 0, none⟩)) ∧ (b1 = true → v13 = .pointer (some ⟨b, 0, none⟩)) ∧ (b2 = true → v14 = .pointer (some ⟨b, 2, none⟩)) ∧ (b3 = true → v15 = (.slice aa t.act.length ca)) ∧ (b4 = true → v16 = .pointer (some ⟨b, 0, none⟩)) ∧ (b5 = true → v17 = .pointer (some ⟨b, 0, none⟩)) ∧ (b6 = true → v18 = .pointer (some ⟨b, 3, none⟩)) ∧ (b7 = true → v19 = (.slice ao t.over.length co)) ∧ (b8 = true → v20 = .slice (some ⟨w1.heap.size, 0, none⟩) 2 2) ∧ (b9 = true → v21 = .int .i64 2) ∧ (b10 = true → v22 = .int .i64 0)) ?start ?step ?fin (by kernel_rfl)
  case start => exact ⟨false, false, false, false, false, false, false, false, false, false, false, undef, undef, undef, undef, undef, undef, undef, undef, undef, undef, undef, rfl, by simp only [Act.put, List.getElem_toArray, List.getElem_cons_succ, List.getElem_cons_zero, List.setIfInBounds_toArray, List.set_cons_zero, List.set_cons_succ], (Below.refl _ _).drew, (fun _ => rfl), (fun h => Bool.noConfusion h), (fun h => Bool.noConfusion h), (fun h => Bool.noConfusion h), (fun h => Bool.noConfusion h), (fun h => Bool.noConfusion h), (fun h => Bool.noConfusion h), (fun h => Bool.noConfusion h), (fun h => Bool.noConfusion h), (fun h => Bool.noConfusion h), (fun h => Bool.noConfusion h), (fun h => Bool.noConfusion h), (fun h => Bool.noConfusion h)⟩
  case step =>
    rintro L a w' i ⟨b0, b1, b2, b3, b4, b5, b6, b7, b8, b9, b10, v12, v13, v14, v15, v16, v17, v18, v19, v20, v21, v22, rfl, rfl, HW, HZ, HF, C0, C1, C2, C3, C4, C5, C6, C7, C8, C9, C10⟩ hi
    obtain ⟨hlt, hu, hn⟩ := ready_has [[], [0], [1], [2], [], [4], [5], [6], [3, 7], [8], []] (by kernel_rfl) (by kernel_rfl) hi
    clear hi
    have hc : i = 0 ∨ i = 1 ∨ i = 2 ∨ i = 3 ∨ i = 4 ∨ i = 5 ∨ i = 6 ∨ i = 7 ∨ i = 8 ∨ i = 9 ∨ i = 10 := by
      have hlt' : i < 11 := hlt
      clear hlt hu hn
      omega
    clear hlt
    rcases hc with rfl | rfl | rfl | rfl | rfl | rfl | rfl | rfl | rfl | rfl | rfl
    · obtain rfl : b0 = false := hu
      clear hn
      refine wpOp_shut rfl (fun K' hK => ?_)
      simp only [Act.put, List.getElem_toArray, List.getElem_cons_succ, List.getElem_cons_zero, List.setIfInBounds_toArray, List.set_cons_zero, List.set_cons_succ]
      go_simp
      refine hK.out _ _ ⟨true, b1, b2, b3, b4, b5, b6, b7, b8, b9, b10, (.pointer (some ⟨b, 0, none⟩)), v13, v14, v15, v16, v17, v18, v19, v20, v21, v22, rfl, by simp only [Act.put, List.getElem_toArray, List.getElem_cons_succ, List.getElem_cons_zero, List.setIfInBounds_toArray, List.set_cons_zero, List.set_cons_succ], HW, HZ, HF, (fun _ => rfl), C1, C2, C3, C4, C5, C6, C7, C8, C9, C10⟩
    · obtain rfl : b1 = false := hu
      obtain rfl : b0 = true := hn 0 (by decide)
      clear hn
      refine wpOp_shut rfl (fun K' hK => ?_)
      simp only [Act.put, List.getElem_toArray, List.getElem_cons_succ, List.getElem_cons_zero, List.setIfInBounds_toArray, List.set_cons_zero, List.set_cons_succ]
      have hC0 := (C0 rfl).symm
      subst hC0
      go_simp
      refine hK.out _ _ ⟨true, true, b2, b3, b4, b5, b6, b7, b8, b9, b10, (.pointer (some ⟨b, 0, none⟩)), (.pointer (some ⟨b, 0, none⟩)), v14, v15, v16, v17, v18, v19, v20, v21, v22, rfl, by simp only [Act.put, List.getElem_toArray, List.getElem_cons_succ, List.getElem_cons_zero, List.setIfInBounds_toArray, List.set_cons_zero, List.set_cons_succ], HW, HZ, HF, C0, (fun _ => rfl), C2, C3, C4, C5, C6, C7, C8, C9, C10⟩
    · obtain rfl : b2 = false := hu
      obtain rfl : b1 = true := hn 1 (by decide)
      clear hn
      refine wpOp_shut rfl (fun K' hK => ?_)
      simp only [Act.put, List.getElem_toArray, List.getElem_cons_succ, List.getElem_cons_zero, List.setIfInBounds_toArray, List.set_cons_zero, List.set_cons_succ]
      have hC1 := (C1 rfl).symm
      subst hC1
      go_simp
      refine hK.out _ _ ⟨b0, true, true, b3, b4, b5, b6, b7, b8, b9, b10, v12, (.pointer (some ⟨b, 0, none⟩)), (.pointer (some ⟨b, 2, none⟩)), v15, v16, v17, v18, v19, v20, v21, v22, rfl, by simp only [Act.put, List.getElem_toArray, List.getElem_cons_succ, List.getElem_cons_zero, List.setIfInBounds_toArray, List.set_cons_zero, List.set_cons_succ], HW, HZ, HF, C0, C1, (fun _ => rfl), C3, C4, C5, C6, C7, C8, C9, C10⟩
    · obtain rfl : b3 = false := hu
      obtain rfl : b2 = true := hn 2 (by decide)
      clear hn
      refine wpOp_shut rfl (fun K' hK => ?_)
      simp only [Act.put, List.getElem_toArray, List.getElem_cons_succ, List.getElem_cons_zero, List.setIfInBounds_toArray, List.set_cons_zero, List.set_cons_succ]
      have hC2 := (C2 rfl).symm
      subst hC2
      have e2 : w'.cell? ⟨b, 2, none⟩ = some (.slice aa t.act.length ca) := (HW.cell (p := ⟨b, 2, none⟩) H1.out.lt).trans H1.out.c2
      go_simp
      refine hK.out _ _ ⟨b0, b1, true, true, b4, b5, b6, b7, b8, b9, b10, v12, v13, (.pointer (some ⟨b, 2, none⟩)), ((.slice aa t.act.length ca)), v16, v17, v18, v19, v20, v21, v22, rfl, by simp only [Act.put, List.getElem_toArray, List.getElem_cons_succ, List.getElem_cons_zero, List.setIfInBounds_toArray, List.set_cons_zero, List.set_cons_succ], HW, HZ, HF, C0, C1, C2, (fun _ => rfl), C4, C5, C6, C7, C8, C9, C10⟩
    · obtain rfl : b4 = false := hu
      clear hn
      refine wpOp_shut rfl (fun K' hK => ?_)
      simp only [Act.put, List.getElem_toArray, List.getElem_cons_succ, List.getElem_cons_zero, List.setIfInBounds_toArray, List.set_cons_zero, List.set_cons_succ]
      go_simp
      refine hK.out _ _ ⟨b0, b1, b2, b3, true, b5, b6, b7, b8, b9, b10, v12, v13, v14, v15, (.pointer (some ⟨b, 0, none⟩)), v17, v18, v19, v20, v21, v22, rfl, by simp only [Act.put, List.getElem_toArray, List.getElem_cons_succ, List.getElem_cons_zero, List.setIfInBounds_toArray, List.set_cons_zero, List.set_cons_succ], HW, HZ, HF, C0, C1, C2, C3, (fun _ => rfl), C5, C6, C7, C8, C9, C10⟩
    · obtain rfl : b5 = false := hu
      obtain rfl : b4 = true := hn 4 (by decide)
      clear hn
      refine wpOp_shut rfl (fun K' hK => ?_)
      simp only [Act.put, List.getElem_toArray, List.getElem_cons_succ, List.getElem_cons_zero, List.setIfInBounds_toArray, List.set_cons_zero, List.set_cons_succ]
      have hC4 := (C4 rfl).symm
      subst hC4
      go_simp
      refine hK.out _ _ ⟨b0, b1, b2, b3, true, true, b6, b7, b8, b9, b10, v12, v13, v14, v15, (.pointer (some ⟨b, 0, none⟩)), (.pointer (some ⟨b, 0, none⟩)), v18, v19, v20, v21, v22, rfl, by simp only [Act.put, List.getElem_toArray, List.getElem_cons_succ, List.getElem_cons_zero, List.setIfInBounds_toArray, List.set_cons_zero, List.set_cons_succ], HW, HZ, HF, C0, C1, C2, C3, C4, (fun _ => rfl), C6, C7, C8, C9, C10⟩
    · obtain rfl : b6 = false := hu
      obtain rfl : b5 = true := hn 5 (by decide)
      clear hn
      refine wpOp_shut rfl (fun K' hK => ?_)
      simp only [Act.put, List.getElem_toArray, List.getElem_cons_succ, List.getElem_cons_zero, List.setIfInBounds_toArray, List.set_cons_zero, List.set_cons_succ]
      have hC5 := (C5 rfl).symm
      subst hC5
      go_simp
      refine hK.out _ _ ⟨b0, b1, b2, b3, b4, true, true, b7, b8, b9, b10, v12, v13, v14, v15, v16, (.pointer (some ⟨b, 0, none⟩)), (.pointer (some ⟨b, 3, none⟩)), v19, v20, v21, v22, rfl, by simp only [Act.put, List.getElem_toArray, List.getElem_cons_succ, List.getElem_cons_zero, List.setIfInBounds_toArray, List.set_cons_zero, List.set_cons_succ], HW, HZ, HF, C0, C1, C2, C3, C4, C5, (fun _ => rfl), C7, C8, C9, C10⟩
    · obtain rfl : b7 = false := hu
      obtain rfl : b6 = true := hn 6 (by decide)
      clear hn
      refine wpOp_shut rfl (fun K' hK => ?_)
      simp only [Act.put, List.getElem_toArray, List.getElem_cons_succ, List.getElem_cons_zero, List.setIfInBounds_toArray, List.set_cons_zero, List.set_cons_succ]
      have hC6 := (C6 rfl).symm
      subst hC6
      have e3 : w'.cell? ⟨b, 3, none⟩ = some (.slice ao t.over.length co) := (HW.cell (p := ⟨b, 3, none⟩) H1.out.lt).trans H1.out.c3
      go_simp
      refine hK.out _ _ ⟨b0, b1, b2, b3, b4, b5, true, true, b8, b9, b10, v12, v13, v14, v15, v16, v17, (.pointer (some ⟨b, 3, none⟩)), ((.slice ao t.over.length co)), v20, v21, v22, rfl, by simp only [Act.put, List.getElem_toArray, List.getElem_cons_succ, List.getElem_cons_zero, List.setIfInBounds_toArray, List.set_cons_zero, List.set_cons_succ], HW, HZ, HF, C0, C1, C2, C3, C4, C5, C6, (fun _ => rfl), C8, C9, C10⟩
    · obtain rfl : b8 = false := hu
      obtain rfl : b3 = true := hn 3 (by decide)
      obtain rfl : b7 = true := hn 7 (by decide)
      clear hn
      refine wpOp_shut rfl (fun K' hK => ?_)
      simp only [Act.put, List.getElem_toArray, List.getElem_cons_succ, List.getElem_cons_zero, List.setIfInBounds_toArray, List.set_cons_zero, List.set_cons_succ]
      have hC3 := (C3 rfl).symm
      subst hC3
      have hC7 := (C7 rfl).symm
      subst hC7
      have HSZ := hid (HZ rfl)
      clear HZ
      go_simp
      refine hK.out _ _ ⟨b0, b1, b2, true, b4, b5, b6, true, true, b9, b10, v12, v13, v14, ((.slice aa t.act.length ca)), v16, v17, v18, ((.slice ao t.over.length co)), (.slice (some ⟨w'.heap.size, 0, none⟩) 2 2), v21, v22, rfl, by simp only [Act.put, List.getElem_toArray, List.getElem_cons_succ, List.getElem_cons_zero, List.setIfInBounds_toArray, List.set_cons_zero, List.set_cons_succ], (HW.alloc HW.size _), (fun h => Bool.noConfusion h), (fun _ => by rw [← HSZ.out]; exact heap_alloc_new w' _), C0, C1, C2, C3, C4, C5, C6, C7, (fun _ => by rw [HSZ.out]), C9, C10⟩
    · obtain rfl : b9 = false := hu
      obtain rfl : b8 = true := hn 8 (by decide)
      clear hn
      refine wpOp_shut rfl (fun K' hK => ?_)
      simp only [Act.put, List.getElem_toArray, List.getElem_cons_succ, List.getElem_cons_zero, List.setIfInBounds_toArray, List.set_cons_zero, List.set_cons_succ]
      have hC8 := (C8 rfl).symm
      subst hC8
      go_simp
      refine hK.out _ _ ⟨b0, b1, b2, b3, b4, b5, b6, b7, true, true, b10, v12, v13, v14, v15, v16, v17, v18, v19, (.slice (some ⟨w1.heap.size, 0, none⟩) 2 2), (.int .i64 2), v22, rfl, by simp only [Act.put, List.getElem_toArray, List.getElem_cons_succ, List.getElem_cons_zero, List.setIfInBounds_toArray, List.set_cons_zero, List.set_cons_succ], HW, HZ, HF, C0, C1, C2, C3, C4, C5, C6, C7, C8, (fun _ => rfl), C10⟩
    · obtain rfl : b10 = false := hu
      clear hn
      refine wpOp_shut rfl (fun K' hK => ?_)
      simp only [Act.put, List.getElem_toArray, List.getElem_cons_succ, List.getElem_cons_zero, List.setIfInBounds_toArray, List.set_cons_zero, List.set_cons_succ]
      go_simp
      refine hK.out _ _ ⟨b0, b1, b2, b3, b4, b5, b6, b7, b8, b9, true, v12, v13, v14, v15, v16, v17, v18, v19, v20, v21, (.int .i64 0), rfl, by simp only [Act.put, List.getElem_toArray, List.getElem_cons_succ, List.getElem_cons_zero, List.setIfInBounds_toArray, List.set_cons_zero, List.set_cons_succ], HW, HZ, HF, C0, C1, C2, C3, C4, C5, C6, C7, C8, C9, (fun _ => rfl)⟩
  case fin =>
    rintro L a w' ⟨b0, b1, b2, b3, b4, b5, b6, b7, b8, b9, b10, v12, v13, v14, v15, v16, v17, v18, v19, v20, v21, v22, rfl, rfl, HW, HZ, HF, C0, C1, C2, C3, C4, C5, C6, C7, C8, C9, C10⟩ hr
    have hz : b0 = true ∧ b1 = true ∧ b2 = true ∧ b3 = true ∧ b4 = true ∧ b5 = true ∧ b6 = true ∧ b7 = true ∧ b8 = true ∧ b9 = true ∧ b10 = true := by
      have h := ready_done (by kernel_rfl) (by kernel_rfl) hr
      simpa only [List.all_cons, List.all_nil, id, Bool.and_true, Bool.and_eq_true] using h
    obtain ⟨rfl, rfl, rfl, rfl, rfl, rfl, rfl, rfl, rfl, rfl, rfl⟩ := hz
    clear hr
    simp only [Act.put, List.getElem_toArray, List.getElem_cons_succ, List.getElem_cons_zero, List.setIfInBounds_toArray, List.set_cons_zero, List.set_cons_succ]
    have hC8 := (C8 rfl).symm
    subst hC8
    have hC9 := (C9 rfl).symm
    subst hC9
    have hC10 := (C10 rfl).symm
    subst hC10
    have HF' := hid (HF rfl)
    have HW' := hid HW
    clear C0 C1 C2 C3 C4 C5 C6 C7 C8 C9 C10 HW HZ HF
    obtain ⟨w2, hw2⟩ : ∃ z, z = w' := ⟨_, rfl⟩
    rw [← hw2] at HF' HW' ⊢
    clear hw2
    go_wp2_with fail
    go_loopw [22] (fun i wr => ∃ k : Nat, i = .int .i64 k ∧ k ≤ 2 ∧ (1 ≤ k → pos t.act z = none) ∧ (2 ≤ k → pos t.over z = none) ∧ Below w2.heap.size w2 wr) (fun i _ => 2 - (intOf i).toNat)
    case atStart => exact ⟨0, rfl, by omega, fun h => absurd h (by omega), fun h => absurd h (by omega), Below.refl _ _⟩
    case round =>
      obtain ⟨k, rfl, hk, ha, ho, hb⟩ := hrel
      have HBR := hid hb
      have hsz2 : w1.heap.size < w2.heap.size := (Array.getElem?_eq_some_iff.1 HF'.out).1
      have HTR := hid ((H1.out.below HW'.out).below hb)
      have HB0 := hid (show Below w.heap.size w wr from (HB1.out.trans (HW'.out.mono HB1.out.size)).trans (hb.mono (by have := HB1.out.size; have := HW'.out.size; omega)))
      have HRES := hid (show wr.heap[w.heap.size]? = _ from ((hb.block _ (by have := HS1.out; omega)).trans (HW'.out.block _ (by have := HS1.out; omega))).trans HR.out)
      have hrow := (hb.block _ hsz2).trans HF'.out
      have r0 : wr.cell? ⟨w1.heap.size, 0, none⟩ = some (.slice aa t.act.length ca) := (cell_of_row _ _ _ _ _ _ hrow).trans rfl
      have r1 : wr.cell? ⟨w1.heap.size, 1, none⟩ = some (.slice ao t.over.length co) := (cell_of_row _ _ _ _ _ _ hrow).trans rfl
      clear hb hrow
      rcases (show k = 0 ∨ k = 1 ∨ k = 2 by omega) with rfl | rfl | rfl
      · have HPL := hid (place_any wr (.slice aa t.act.length ca) t.act z (OwnJ.rd HTR.out.oa) (by have := HTR.out.la; omega))
        rcases hp : pos t.act z with _ | i
        · rw [posI_none hp] at HPL
          have HNO := hid hp

          clear hp ha ho
          go_wp2_with fail
          refine HPL.out.mono ?_
          rintro e w3 ⟨rfl, hb3⟩
          have HB3 := hid (HBR.out.trans (hb3.mono HBR.out.size))
          clear hb3 r0 r1
          go_wp2_with fail
          go_roundw
          case rel => exact ⟨1, by go_num, by omega, fun _ => (by first | exact HNO.out | trivial), fun h => absurd h (by omega), HB3.out⟩
          case measure => simp [intOf]
        · rw [posI_some hp] at HPL
          obtain ⟨x, hx, hxz, -⟩ := pos_some hp
          have HJ := hid (show t.job z = (x, true) by unfold Tb.job; rw [hp]; simp only [List.getD_eq_getElem?_getD, hx, Option.getD_some])
          have HX := hid hx
          have hil := (List.getElem?_eq_some_iff.1 hx).1
          clear hp ha ho hxz
          go_wp2_with fail
          refine HPL.out.mono ?_
          rintro e w3 ⟨rfl, hb3⟩
          have HB3 := hid (HB0.out.trans (hb3.mono HB0.out.size))
          have HT3 := HTR.out.below hb3
          have hres := (hb3.block _ (Array.getElem?_eq_some_iff.1 HRES.out).1).trans HRES.out
          obtain ⟨b0, of, c0, ev, hc1, hc2, hbl, f0, f1, f2, f3, f4, f5⟩ := RdJ.item (OwnJ.rd HT3.oa) HX.out
          simp only [Value.slice.injEq] at ev
          obtain ⟨rfl, -, rfl⟩ := ev
          have hii : (i : Int) < (t.act.length : Int) := by omega
          have HRS := hid hres
          have q0 : w3.cell? ⟨w.heap.size, 0, none⟩ = some (.int .u32 0) := (cell_of_row _ _ _ _ _ _ hres).trans rfl
          have q1 : w3.cell? ⟨w.heap.size, 1, none⟩ = some (.int .u8 0) := (cell_of_row _ _ _ _ _ _ hres).trans rfl
          have q2 : w3.cell? ⟨w.heap.size, 2, none⟩ = some (.int .i64 0) := (cell_of_row _ _ _ _ _ _ hres).trans rfl
          have q3 : w3.cell? ⟨w.heap.size, 3, none⟩ = some (.int .i64 0) := (cell_of_row _ _ _ _ _ _ hres).trans rfl
          have q4 : w3.cell? ⟨w.heap.size, 4, none⟩ = some (.int .u8 0) := (cell_of_row _ _ _ _ _ _ hres).trans rfl
          have q5 : w3.cell? ⟨w.heap.size, 5, none⟩ = some (.int .i64 0) := (cell_of_row _ _ _ _ _ _ hres).trans rfl
          have z0 : w3.frozen? ⟨w.heap.size, 0, none⟩ = false := frozen_of_row _ _ _ _ _ hres
          have z1 : w3.frozen? ⟨w.heap.size, 1, none⟩ = false := frozen_of_row _ _ _ _ _ hres
          have z2 : w3.frozen? ⟨w.heap.size, 2, none⟩ = false := frozen_of_row _ _ _ _ _ hres
          have z3 : w3.frozen? ⟨w.heap.size, 3, none⟩ = false := frozen_of_row _ _ _ _ _ hres
          have z4 : w3.frozen? ⟨w.heap.size, 4, none⟩ = false := frozen_of_row _ _ _ _ _ hres
          have z5 : w3.frozen? ⟨w.heap.size, 5, none⟩ = false := frozen_of_row _ _ _ _ _ hres
          obtain ⟨x0, x1, x2, x3, x4, x5⟩ := x
          dsimp only at f0 f1 f2 f3 f4 f5
          clear hb3 HT3 hres r0 r1 hil hbl
          go_wp2_with fail
          refine bodyPost_ret (results_cellJ rfl _ _ _ w.heap.size 44 _ (0, 0) _ rfl rfl (set6_heap HRS.out) Try.underlying44 (by kernel_rfl)) rfl ?_
          exact ⟨by rw [HJ.out]; rfl, set6_below HB3.out (Nat.le_refl _)⟩
      · have HPL := hid (place_any wr (.slice ao t.over.length co) t.over z (OwnJ.rd HTR.out.oo) (by have := HTR.out.lv; omega))
        rcases hp : pos t.over z with _ | i
        · rw [posI_none hp] at HPL
          have HNO := hid hp
          have HAA := hid (ha (by omega))
          clear hp ha ho
          go_wp2_with fail
          refine HPL.out.mono ?_
          rintro e w3 ⟨rfl, hb3⟩
          have HB3 := hid (HBR.out.trans (hb3.mono HBR.out.size))
          clear hb3 r0 r1
          go_wp2_with fail
          go_roundw
          case rel => exact ⟨2, by go_num, by omega, fun _ => (by first | exact HAA.out | trivial), fun _ => (by first | exact HNO.out | trivial), HB3.out⟩
          case measure => simp [intOf]
        · rw [posI_some hp] at HPL
          obtain ⟨x, hx, hxz, -⟩ := pos_some hp
          have HJ := hid (show t.job z = (x, true) by unfold Tb.job; rw [ha (by omega), hp]; simp only [List.getD_eq_getElem?_getD, hx, Option.getD_some])
          have HX := hid hx
          have hil := (List.getElem?_eq_some_iff.1 hx).1
          clear hp ha ho hxz
          go_wp2_with fail
          refine HPL.out.mono ?_
          rintro e w3 ⟨rfl, hb3⟩
          have HB3 := hid (HB0.out.trans (hb3.mono HB0.out.size))
          have HT3 := HTR.out.below hb3
          have hres := (hb3.block _ (Array.getElem?_eq_some_iff.1 HRES.out).1).trans HRES.out
          obtain ⟨b0, of, c0, ev, hc1, hc2, hbl, f0, f1, f2, f3, f4, f5⟩ := RdJ.item (OwnJ.rd HT3.oo) HX.out
          simp only [Value.slice.injEq] at ev
          obtain ⟨rfl, -, rfl⟩ := ev
          have hii : (i : Int) < (t.over.length : Int) := by omega
          have HRS := hid hres
          have q0 : w3.cell? ⟨w.heap.size, 0, none⟩ = some (.int .u32 0) := (cell_of_row _ _ _ _ _ _ hres).trans rfl
          have q1 : w3.cell? ⟨w.heap.size, 1, none⟩ = some (.int .u8 0) := (cell_of_row _ _ _ _ _ _ hres).trans rfl
          have q2 : w3.cell? ⟨w.heap.size, 2, none⟩ = some (.int .i64 0) := (cell_of_row _ _ _ _ _ _ hres).trans rfl
          have q3 : w3.cell? ⟨w.heap.size, 3, none⟩ = some (.int .i64 0) := (cell_of_row _ _ _ _ _ _ hres).trans rfl
          have q4 : w3.cell? ⟨w.heap.size, 4, none⟩ = some (.int .u8 0) := (cell_of_row _ _ _ _ _ _ hres).trans rfl
          have q5 : w3.cell? ⟨w.heap.size, 5, none⟩ = some (.int .i64 0) := (cell_of_row _ _ _ _ _ _ hres).trans rfl
          have z0 : w3.frozen? ⟨w.heap.size, 0, none⟩ = false := frozen_of_row _ _ _ _ _ hres
          have z1 : w3.frozen? ⟨w.heap.size, 1, none⟩ = false := frozen_of_row _ _ _ _ _ hres
          have z2 : w3.frozen? ⟨w.heap.size, 2, none⟩ = false := frozen_of_row _ _ _ _ _ hres
          have z3 : w3.frozen? ⟨w.heap.size, 3, none⟩ = false := frozen_of_row _ _ _ _ _ hres
          have z4 : w3.frozen? ⟨w.heap.size, 4, none⟩ = false := frozen_of_row _ _ _ _ _ hres
          have z5 : w3.frozen? ⟨w.heap.size, 5, none⟩ = false := frozen_of_row _ _ _ _ _ hres
          obtain ⟨x0, x1, x2, x3, x4, x5⟩ := x
          dsimp only at f0 f1 f2 f3 f4 f5
          clear hb3 HT3 hres r0 r1 hil hbl
          go_wp2_with fail
          refine bodyPost_ret (results_cellJ rfl _ _ _ w.heap.size 44 _ (0, 0) _ rfl rfl (set6_heap HRS.out) Try.underlying44 (by kernel_rfl)) rfl ?_
          exact ⟨by rw [HJ.out]; rfl, set6_below HB3.out (Nat.le_refl _)⟩
      · have HJ := hid (show t.job z = (jzero, false) by unfold Tb.job; rw [ha (by omega), ho (by omega)])
        have HRS := hid HRES.out
        have hres := HRES.out
        have q0 : wr.cell? ⟨w.heap.size, 0, none⟩ = some (.int .u32 0) := (cell_of_row _ _ _ _ _ _ hres).trans rfl
        have z0 : wr.frozen? ⟨w.heap.size, 0, none⟩ = false := frozen_of_row _ _ _ _ _ hres
        have q1 : wr.cell? ⟨w.heap.size, 1, none⟩ = some (.int .u8 0) := (cell_of_row _ _ _ _ _ _ hres).trans rfl
        have z1 : wr.frozen? ⟨w.heap.size, 1, none⟩ = false := frozen_of_row _ _ _ _ _ hres
        have q2 : wr.cell? ⟨w.heap.size, 2, none⟩ = some (.int .i64 0) := (cell_of_row _ _ _ _ _ _ hres).trans rfl
        have z2 : wr.frozen? ⟨w.heap.size, 2, none⟩ = false := frozen_of_row _ _ _ _ _ hres
        have q3 : wr.cell? ⟨w.heap.size, 3, none⟩ = some (.int .i64 0) := (cell_of_row _ _ _ _ _ _ hres).trans rfl
        have z3 : wr.frozen? ⟨w.heap.size, 3, none⟩ = false := frozen_of_row _ _ _ _ _ hres
        have q4 : wr.cell? ⟨w.heap.size, 4, none⟩ = some (.int .u8 0) := (cell_of_row _ _ _ _ _ _ hres).trans rfl
        have z4 : wr.frozen? ⟨w.heap.size, 4, none⟩ = false := frozen_of_row _ _ _ _ _ hres
        have q5 : wr.cell? ⟨w.heap.size, 5, none⟩ = some (.int .i64 0) := (cell_of_row _ _ _ _ _ _ hres).trans rfl
        have z5 : wr.frozen? ⟨w.heap.size, 5, none⟩ = false := frozen_of_row _ _ _ _ _ hres
        clear hres ha ho r0 r1
        go_wp2_with fail
        refine bodyPost_ret (results_cellJ rfl _ _ _ w.heap.size 44 _ (0, 0) _ rfl rfl (set6_heap HRS.out) Try.underlying44 (by kernel_rfl)) rfl ?_
        exact ⟨by rw [HJ.out]; rfl, set6_below HB0.out (Nat.le_refl _)⟩

end Go.Proofs.Ytahiaifdfgkemaa
