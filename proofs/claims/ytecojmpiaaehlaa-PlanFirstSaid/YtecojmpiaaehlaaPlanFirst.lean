/-
  P14.1: when and where an ask starts, and what the profile is then, is as the document tells it; the profile that was handed in stays.
  (The frame behind the walk is the guide's shell, at these parameters.)
-/
import Derived.Test.YtecojmpiaaehlaaRows
import Derived.WalkKit
import Derived.Test.YtecojmpiaaehlaaRfG
import Derived.Test.YtecojmpiaaehlaaRfE
import Derived.Test.YtecojmpiaaehlaaRfD
import Derived.Test.YtecojmpiaaehlaaPlZ
import Derived.Test.YtecojmpiaaehlaaPlH
import Derived.Test.YtecojmpiaaehlaaInv
import Derived.Test.YtecojmpiaaehlaaRfF
import Derived.ProofKit
import Derived.Deep.Cut
import Derived.Deep.CutRange
import Derived.Deep.CutBlock
import Derived.Deep.Grids
import Derived.OpenShut
import Derived.ShutString
import Derived.ChangeOld
import Derived.Below
namespace Go.Proofs.Ytecojmpiaaehlaa.planFirst
open Go.ChangeShapes Go.WideShapes Go.ChangeAt Go.RowKit
open Go.ChangeMaps (open_string shut_string)
set_option linter.unusedVariables false

theorem own : ownKnob Try.prog.godebug = none := by kernel_rfl
theorem laidOut : laidOutB Try.prog = true := by kernel_rfl

set_option linter.unusedSimpArgs false
theorem found_len {p : List (List Nat)} {K : Int} {t r : Nat} {ns : List Nat} (h : first p K = some (t, r, ns)) : ns.length ≤ (p.getD r []).length := by
  obtain ⟨hr, k, -, hk, hT, hns⟩ := first_row h
  rw [hns]
  unfold sel selTo
  exact Nat.le_trans (List.length_filter_le _ _) (by simp)
theorem bnd_row {P : List (List Int)} (h : ∀ r ∈ P, r.length ≤ 20) (r : Nat) : ((bndP P).getD r []).length ≤ 20 := by
  rw [List.getD_eq_getElem?_getD]
  unfold bndP
  rw [List.getElem?_map]
  cases hr : P[r]? with
  | none => simp
  | some l => simpa [bndL] using h l (List.mem_of_getElem? hr)
theorem found_20 {P : List (List Int)} (h : ∀ r ∈ P, r.length ≤ 20) (K : Int) : (stN (first (bndP P) K)).length ≤ 20 := by
  cases hf : first (bndP P) K with
  | none => simp [stN]
  | some s => obtain ⟨t, r, ns⟩ := s; exact Nat.le_trans (found_len hf) (bnd_row h r)
theorem set4_cell (w : World) (g q o : Nat) (A B C D : Value) (h : q ≠ g) : (set4 w g A B C D).cell? ⟨q, o, none⟩ = w.cell? ⟨q, o, none⟩ := World.cell?_of_block (w := w) (set4_other w g q A B C D h)
theorem alloc_cell (w : World) (q o : Nat) (c : Obj) (h : q < w.heap.size) : (w.alloc c).cell? ⟨q, o, none⟩ = w.cell? ⟨q, o, none⟩ := ((Below.refl _ _).alloc (Nat.le_refl _) c).cell (p := ⟨q, o, none⟩) h
theorem alloc_cell_d (w : World) (q o : Nat) (c : Obj) (h : q < w.heap.size) : (w.alloc c).drew.cell? ⟨q, o, none⟩ = w.drew.cell? ⟨q, o, none⟩ := ((Below.refl _ _).alloc (Nat.le_refl _) c).cell (p := ⟨q, o, none⟩) h
theorem zlt {w : World} {g : Nat} {o : Obj} (h : w.heap[g]? = some o) : g < w.heap.size := (Array.getElem?_eq_some_iff.1 h).1
abbrev Zero4 (w : World) (g : Nat) : Prop := w.heap[g]? = some (.cells #[.int .i64 0, .int .i64 0, .slice none 0 0, .bool false] 32 (0, 0))
theorem zero4 {w : World} {g : Nat} (h : Zero4 w g) : w.cell? ⟨g, 0, none⟩ = some (.int .i64 0) ∧ w.cell? ⟨g, 1, none⟩ = some (.int .i64 0) ∧ w.cell? ⟨g, 2, none⟩ = some (.slice none 0 0) ∧ w.cell? ⟨g, 3, none⟩ = some (.bool false) ∧
    w.frozen? ⟨g, 0, none⟩ = false ∧ w.frozen? ⟨g, 1, none⟩ = false ∧ w.frozen? ⟨g, 2, none⟩ = false ∧ w.frozen? ⟨g, 3, none⟩ = false :=
  ⟨(cell_of_row w _ _ _ _ _ h).trans rfl, (cell_of_row w _ _ _ _ _ h).trans rfl, (cell_of_row w _ _ _ _ _ h).trans rfl, (cell_of_row w _ _ _ _ _ h).trans rfl, frozen_of_row _ _ _ _ _ h, frozen_of_row _ _ _ _ _ h, frozen_of_row _ _ _ _ _ h, frozen_of_row _ _ _ _ _ h⟩
theorem row_caps {w : World} {A : Option Addr} {L C : Nat} {zs : List Int} (h : IsRow .i64 w A L C zs) : L ≤ C ∧ C ≤ 9223372036854775807 := by
  rcases h with ⟨rfl, rfl, rfl, rfl⟩ | ⟨x, rfl, h1, h2, h3, h4, h5⟩
  · exact ⟨Nat.le_refl _, by omega⟩
  · exact ⟨h1, by unfold maxLen at h2; exact h2⟩
theorem start_nodes {w : World} {A : Option Addr} {L C : Nat} {zs : List Int} (h : IsRow .i64 w A L C zs) : ∃ (ns : List Int) (n : Nat), ns.length = n ∧ n ≤ 20 ∧ n = min L 20 ∧ RdW w (.slice A n C) (ns.map iw) := by
  have hc := row_caps h
  obtain ⟨h1, h2⟩ := h.srcI (min L 20) (Nat.min_le_left _ _)
  refine ⟨zs.take (min L 20), min L 20, h1, Nat.min_le_right _ _, rfl, A, C, by rw [List.length_map, h1], by rw [List.length_map, h1]; omega, hc.2, fun j x hj => ?_⟩
  rw [List.getElem?_map] at hj
  cases hz : (zs.take (min L 20))[j]? with
  | none => rw [hz] at hj; cases hj
  | some y =>
    rw [hz] at hj
    cases hj
    exact h2 j y hz
abbrev Zero4r (w : World) (g : Nat) : Prop := w.heap[g]? = some (.cells #[.int .i64 0, .int .i64 0, .slice none 0 0, .bool false] 27 (0, 0))
theorem zero4r {w : World} {g : Nat} (h : Zero4r w g) : w.cell? ⟨g, 0, none⟩ = some (.int .i64 0) ∧ w.cell? ⟨g, 1, none⟩ = some (.int .i64 0) ∧ w.cell? ⟨g, 2, none⟩ = some (.slice none 0 0) ∧ w.cell? ⟨g, 3, none⟩ = some (.bool false) ∧
    w.frozen? ⟨g, 0, none⟩ = false ∧ w.frozen? ⟨g, 1, none⟩ = false ∧ w.frozen? ⟨g, 2, none⟩ = false ∧ w.frozen? ⟨g, 3, none⟩ = false :=
  ⟨(cell_of_row w _ _ _ _ _ h).trans rfl, (cell_of_row w _ _ _ _ _ h).trans rfl, (cell_of_row w _ _ _ _ _ h).trans rfl, (cell_of_row w _ _ _ _ _ h).trans rfl, frozen_of_row _ _ _ _ _ h, frozen_of_row _ _ _ _ _ h, frozen_of_row _ _ _ _ _ h, frozen_of_row _ _ _ _ _ h⟩
theorem blk_ne {w : World} {g g' : Nat} {z z' : Array Value} {t t' : TypeId} {fr fr' : Nat × Nat} (h : w.heap[g]? = some (.cells z t fr)) (h' : w.heap[g']? = some (.cells z' t' fr')) (hne : t ≠ t') : g ≠ g' := by
  intro e
  rw [e, h'] at h
  simp only [Option.some.injEq, Obj.cells.injEq] at h
  exact hne h.2.1.symm
set_option maxRecDepth 100000 in
set_option maxHeartbeats 8000000 in
theorem walk (a0 : Option Addr) (len0 cap0 : Nat) (v1 : Value) (v2 : Value) (w : World) (w0 : IsMatI w a0 len0 cap0) (w1 : IsAsk w v1) (w2 : IsStart w v2) :
    Calls Try.prog 3 #[.slice a0 len0 cap0, v1, v2] w fun e w' => e = .returned (.bool true) ∧ Below w.heap.size w w' := by
  obtain ⟨ts, hraw⟩ := w0.raw
  obtain ⟨k1, n1, rfl⟩ := w1
  obtain ⟨at_, row, NA, NL, NC, ok, zs, rfl, hns⟩ := w2
  obtain ⟨ht10, ht20⟩ := raw_take hraw
  have HR := hid hraw
  have HT10 := hid ht10
  have HT20 := hid ht20
  have HPROF := hid (fun w' (h : Below w.heap.size w w') => profile_all w' a0 len0 cap0 ts (HR.out.all h))
  have HFEW := hid (fun w' (h : Below w.heap.size w w') => few_all w' a0 len0 cap0 ts (HR.out.all h))
  obtain ⟨ns, n, hnn, hn20, hnL, hrdw⟩ : ∃ (ns : List Int) (n : Nat), ns.length = n ∧ n ≤ 20 ∧ n = min NL 20 ∧ RdW w (.slice NA n NC) (ns.map iw) := start_nodes hns
  obtain ⟨hNLC, hNCm⟩ := row_caps hns
  have HNN := hid hnn
  have HRW := hid hrdw
  have hmn : (if (20 : Int) < (NL : Int) then (20 : Int) else (NL : Int)) = (n : Int) := by split <;> omega
  have hmn2 : min (NL : Int) 20 = (n : Int) := by omega
  have hnNL : n ≤ NL := by omega
  clear w0 hraw ht10 ht20 HR hns hnn hrdw hnL
  generalize ts.take 10 = P at *
  have hP10 : P.length ≤ 1000 := by have := HT10.out; omega
  have HP20 := hid (show ∀ r ∈ P, r.length ≤ 1000 from fun r hr => by have := HT20.out r hr; omega)
  go_enter Try.func3, Try.ntmps3
  go_wp2_with fail
  obtain ⟨x1, hx1⟩ : ∃ x1, x1 = w.alloc (.cells #[.int .i64 k1, .int .i64 n1] 24) := ⟨_, rfl⟩
  obtain ⟨x2, hx2⟩ : ∃ x2, x2 = x1.alloc (.cells #[.int .i64 at_, .int .i64 row, .slice NA NL NC, .bool ok] 27) := ⟨_, rfl⟩
  have hs1 : x1.heap.size = w.heap.size + 1 := by rw [hx1]; simp
  have hs2 : x2.heap.size = w.heap.size + 2 := by rw [hx2]; simp [hs1]
  have hb1 : Below w.heap.size w x1 := by rw [hx1]; exact (Below.refl _ w).alloc (Nat.le_refl _) _
  have hb2 : Below x1.heap.size x1 x2 := by rw [hx2]; exact (Below.refl _ x1).alloc (Nat.le_refl _) _
  have g1 : x2.heap[w.heap.size]? = some (.cells #[.int .i64 k1, .int .i64 n1] 24 (0, 0)) := (hb2.block _ (by omega)).trans (by rw [hx1]; exact heap_alloc_new w _)
  have g2 : x2.heap[w.heap.size + 1]? = some (.cells #[.int .i64 at_, .int .i64 row, .slice NA NL NC, .bool ok] 27 (0, 0)) := by rw [hx2, ← hs1]; exact heap_alloc_new x1 _
  have HB2 := hid (hb1.trans (hb2.mono (by omega)))
  have HG1 := hid g1
  have HG2 := hid g2
  rw [← hx1, ← hx2]
  clear hx1 hx2 hb1 hb2 g1 g2 hs1
  refine (awake14_any x2).mono ?_
  rintro e xa ⟨rfl, hba⟩
  have hsa : w.heap.size + 2 ≤ xa.heap.size := by have := hba.size; omega
  have HBa := hid (HB2.out.trans (hba.mono (by omega)))
  have HGa := hid ((hba.block w.heap.size (by omega)).trans HG1.out)
  have HOa := hid ((hba.block (w.heap.size + 1) (by omega)).trans HG2.out)
  clear hba hs2 HB2 HG1 HG2
  go_wp2_with fail
  refine (HPROF.out xa HBa.out).mono ?_
  rintro e xb ⟨v1, rfl, hv1, hbb, hkm⟩
  obtain ⟨ma, mc, rfl, hm1, hm2⟩ := hv1.len
  have HBb := hid (HBa.out.trans (hbb.mono (by omega)))
  have hsb : w.heap.size + 2 ≤ xb.heap.size := by have := hbb.size; omega
  have HGb := hid ((hbb.block w.heap.size (by omega)).trans HGa.out)
  have HOb := hid ((hbb.block (w.heap.size + 1) (by omega)).trans HOa.out)
  have HMb := hid hv1
  have HKM := hid hkm
  have hgo : w.heap.size + 1 < xa.heap.size := by omega
  have hab := hbb.size
  clear hkm
  clear hv1 hbb HBa HGa HOa hsa
  go_wp2_with fail
  refine (HFEW.out xb HBb.out).mono ?_
  rintro e xc ⟨v2, rfl, hv2, hbc, hkq⟩
  obtain ⟨qa, qc, rfl, hq1, hq2⟩ := hv2.len
  have HBc := hid (HBb.out.trans (hbc.mono (by omega)))
  have hsc : w.heap.size + 2 ≤ xc.heap.size := by have := hbc.size; omega
  have HGc := hid ((hbc.block w.heap.size (by omega)).trans HGb.out)
  have HOc := hid ((hbc.block (w.heap.size + 1) (by omega)).trans HOb.out)
  have HMc := hid (HMb.out.all hbc)
  have HQc := hid hv2
  have HKQ := hid hkq
  have HBbc := hid hbc
  have hbsc := hbc.size
  clear hkq
  clear hv2 hbc HBb HGb HOb HMb hsb
  obtain ⟨s, hs⟩ : ∃ s, s = first (bndP P) k1 := ⟨_, rfl⟩
  have HS := hid hs
  have hn20' : (stN s).length ≤ 20 := by rw [hs]; exact found_20 HT20.out _
  have HF1 := hid (fun (w8 : World) (v8 : Value) (h : RdP w8 v8 P) => xfirst_any w8 v8 P k1 n1 h hP10 HP20.out)
  have HF2 := hid (fun (w8 : World) (v8 : Value) (h : RdP w8 v8 P) => rfirst_any w8 v8 P k1 n1 h hP10 HP20.out)
  simp only [← hs] at HF1 HF2
  clear hs
  go_upto_region 4 with (fail)
  refine Orders.begins (C := []) (by kernel_rfl) ?_
  refine Orders.inv_at (I := fun L A a w => ∃ (b0 b1 b2 b3 b4 b5 b6 b7 b8 b9 : Bool) (v17 v18 v19 v20 v21 v22 v9 v10 : Value), L = #[b0, b1, b2, b3, b4, b5, b6, b7, b8, b9] ∧ a = ((((((((A.put (some 17) v17).put (some 18) v18).put (some 19) v19).put (some 20) v20).put (some 21) v21).put (some 22) v22).put (some 9) v9).put (some 10) v10) ∧ Below xc.heap.size xc w ∧ (b8 = true → b2 = true ∧ b6 = true) ∧ (b9 = true → b5 = true ∧ b7 = true) ∧ (b0 = true → v17 = .slice ma P.length mc) ∧ (b1 = true → v18 = .agg #[.int .i64 k1, .int .i64 n1]) ∧ (b2 = true → (∃ ua uc, v19 = .agg #[.int .i64 (stA s : Nat), .int .i64 (stR s : Nat), .slice ua (stN s).length uc, .bool s.isSome] ∧ w.ownsRow xc.heap.size 3 1 (.slice ua (stN s).length uc) (stN s).length ((stN s).map iv))) ∧ (b3 = true → v20 = .slice qa P.length qc) ∧ (b4 = true → v21 = .agg #[.int .i64 k1, .int .i64 n1]) ∧ (b5 = true → (∃ ua uc, v22 = .agg #[.int .i64 (stA s : Nat), .int .i64 (stR s : Nat), .slice ua (stN s).length uc, .bool s.isSome] ∧ w.ownsRow xc.heap.size 3 1 (.slice ua (stN s).length uc) (stN s).length ((stN s).map iv))) ∧ (b6 = true → (∃ (g : Nat) (z : Array Value), v9 = .pointer (some ⟨g, 0, none⟩) ∧ xc.heap.size ≤ g ∧ w.heap[g]? = some (.cells z 32 (0, 0)) ∧ (b8 = false → z = #[.int .i64 0, .int .i64 0, .slice none 0 0, .bool false]) ∧ (b8 = true → v19 = .agg z))) ∧ (b7 = true → (∃ (g : Nat) (z : Array Value), v10 = .pointer (some ⟨g, 0, none⟩) ∧ xc.heap.size ≤ g ∧ w.heap[g]? = some (.cells z 27 (0, 0)) ∧ (b9 = false → z = #[.int .i64 0, .int .i64 0, .slice none 0 0, .bool false]) ∧ (b9 = true → v22 = .agg z)))) ?start ?step ?fin (by kernel_rfl)
  case start => exact ⟨false, false, false, false, false, false, false, false, false, false, undef, undef, undef, undef, undef, undef, undef, undef, rfl, by simp only [Act.put, List.getElem_toArray, List.getElem_cons_succ, List.getElem_cons_zero, List.setIfInBounds_toArray, List.set_cons_zero, List.set_cons_succ], ((Below.refl _ _).drew), (fun h => Bool.noConfusion h), (fun h => Bool.noConfusion h), (fun h => Bool.noConfusion h), (fun h => Bool.noConfusion h), (fun h => Bool.noConfusion h), (fun h => Bool.noConfusion h), (fun h => Bool.noConfusion h), (fun h => Bool.noConfusion h), (fun h => Bool.noConfusion h), (fun h => Bool.noConfusion h)⟩
  case step =>
    rintro L a w' i ⟨b0, b1, b2, b3, b4, b5, b6, b7, b8, b9, v17, v18, v19, v20, v21, v22, v9, v10, rfl, rfl, HW, D8, D9, C0, C1, C2, C3, C4, C5, C6, C7⟩ hi
    have hc := ready_bits 10 (fun bs i => match bs with | [b0, b1, b2, b3, b4, b5, b6, b7, b8, b9] => (((i == 0) && !b0) || (((i == 1) && !b1) || (((i == 2) && !b2 && b0 && b1) || (((i == 3) && !b3) || (((i == 4) && !b4) || (((i == 5) && !b5 && b3 && b4) || (((i == 6) && !b6) || (((i == 7) && !b7) || (((i == 8) && !b8 && b2 && b6) || ((i == 9) && !b9 && b5 && b7)))))))))) | _ => false) (by kernel_rfl) [b0, b1, b2, b3, b4, b5, b6, b7, b8, b9] rfl hi
    clear hi
    simp only [Bool.or_eq_true, Bool.and_eq_true, beq_iff_eq, Bool.not_eq_true'] at hc
    rcases hc with ⟨rfl, rfl⟩ | ⟨rfl, rfl⟩ | ⟨⟨⟨rfl, rfl⟩, rfl⟩, rfl⟩ | ⟨rfl, rfl⟩ | ⟨rfl, rfl⟩ | ⟨⟨⟨rfl, rfl⟩, rfl⟩, rfl⟩ | ⟨rfl, rfl⟩ | ⟨rfl, rfl⟩ | ⟨⟨⟨rfl, rfl⟩, rfl⟩, rfl⟩ | ⟨⟨⟨rfl, rfl⟩, rfl⟩, rfl⟩
    · refine wpOp_shut rfl (fun K' hK => ?_)
      simp only [Act.put, List.getElem_toArray, List.getElem_cons_succ, List.getElem_cons_zero, List.setIfInBounds_toArray, List.set_cons_zero, List.set_cons_succ]
      go_simp
      refine hK.out _ _ ⟨true, b1, b2, b3, b4, b5, b6, b7, b8, b9, (.slice ma P.length mc), v18, v19, v20, v21, v22, v9, v10, rfl, by simp only [Act.put, List.getElem_toArray, List.getElem_cons_succ, List.getElem_cons_zero, List.setIfInBounds_toArray, List.set_cons_zero, List.set_cons_succ], HW, D8, D9, (fun _ => rfl), C1, C2, C3, C4, C5, C6, C7⟩
    · refine wpOp_shut rfl (fun K' hK => ?_)
      simp only [Act.put, List.getElem_toArray, List.getElem_cons_succ, List.getElem_cons_zero, List.setIfInBounds_toArray, List.set_cons_zero, List.set_cons_succ]
      have e0 : w'.cell? ⟨w.heap.size, 0, none⟩ = some (.int .i64 k1) := (cell_of_row w' _ _ _ _ _ ((HW.block w.heap.size (by omega)).trans HGc.out)).trans rfl
      have e1 : w'.cell? ⟨w.heap.size, 1, none⟩ = some (.int .i64 n1) := (cell_of_row w' _ _ _ _ _ ((HW.block w.heap.size (by omega)).trans HGc.out)).trans rfl
      go_simp
      refine hK.out _ _ ⟨b0, true, b2, b3, b4, b5, b6, b7, b8, b9, v17, (.agg #[.int .i64 k1, .int .i64 n1]), v19, v20, v21, v22, v9, v10, rfl, by simp only [Act.put, List.getElem_toArray, List.getElem_cons_succ, List.getElem_cons_zero, List.setIfInBounds_toArray, List.set_cons_zero, List.set_cons_succ], HW, D8, D9, C0, (fun _ => rfl), C2, C3, C4, C5, C6, C7⟩
    · refine wpOp_shut rfl (fun K' hK => ?_)
      simp only [Act.put, List.getElem_toArray, List.getElem_cons_succ, List.getElem_cons_zero, List.setIfInBounds_toArray, List.set_cons_zero, List.set_cons_succ]
      obtain rfl := C0 rfl
      obtain rfl := C1 rfl
      go_simp
      refine (HF1.out w' _ (HMc.out.all HW)).mono ?_
      rintro e w2 ⟨u, rfl, ho, hb⟩
      obtain ⟨ua, uc, rfl, -, -⟩ := owns_slice ho
      refine hK.out _ _ ⟨true, true, true, b3, b4, b5, b6, b7, b8, b9, (.slice ma P.length mc), (.agg #[.int .i64 k1, .int .i64 n1]), (.agg #[.int .i64 (stA s : Nat), .int .i64 (stR s : Nat), .slice ua (stN s).length uc, .bool s.isSome]), v20, v21, v22, v9, v10, rfl, by simp only [Act.put, List.getElem_toArray, List.getElem_cons_succ, List.getElem_cons_zero, List.setIfInBounds_toArray, List.set_cons_zero, List.set_cons_succ], (HW.trans (hb.mono HW.size)), (fun h => absurd (D8 h).1 Bool.false_ne_true), D9, C0, C1, (fun _ => ⟨ua, uc, rfl, owns_base ho HW.size⟩), C3, C4, (fun h => by obtain ⟨ua, uc, e, ho⟩ := C5 h; exact ⟨ua, uc, e, owns_below ho hb⟩), (fun h => by obtain ⟨g, z, e, hg, hz, h1, h2⟩ := C6 h; exact ⟨g, z, e, hg, (hb.block _ (zlt hz)).trans hz, h1, (fun h8 => absurd (D8 h8).1 Bool.false_ne_true)⟩), (fun h => by obtain ⟨g, z, e, hg, hz, h1, h2⟩ := C7 h; exact ⟨g, z, e, hg, (hb.block _ (zlt hz)).trans hz, h1, h2⟩)⟩
    · refine wpOp_shut rfl (fun K' hK => ?_)
      simp only [Act.put, List.getElem_toArray, List.getElem_cons_succ, List.getElem_cons_zero, List.setIfInBounds_toArray, List.set_cons_zero, List.set_cons_succ]
      go_simp
      refine hK.out _ _ ⟨b0, b1, b2, true, b4, b5, b6, b7, b8, b9, v17, v18, v19, (.slice qa P.length qc), v21, v22, v9, v10, rfl, by simp only [Act.put, List.getElem_toArray, List.getElem_cons_succ, List.getElem_cons_zero, List.setIfInBounds_toArray, List.set_cons_zero, List.set_cons_succ], HW, D8, D9, C0, C1, C2, (fun _ => rfl), C4, C5, C6, C7⟩
    · refine wpOp_shut rfl (fun K' hK => ?_)
      simp only [Act.put, List.getElem_toArray, List.getElem_cons_succ, List.getElem_cons_zero, List.setIfInBounds_toArray, List.set_cons_zero, List.set_cons_succ]
      have e0 : w'.cell? ⟨w.heap.size, 0, none⟩ = some (.int .i64 k1) := (cell_of_row w' _ _ _ _ _ ((HW.block w.heap.size (by omega)).trans HGc.out)).trans rfl
      have e1 : w'.cell? ⟨w.heap.size, 1, none⟩ = some (.int .i64 n1) := (cell_of_row w' _ _ _ _ _ ((HW.block w.heap.size (by omega)).trans HGc.out)).trans rfl
      go_simp
      refine hK.out _ _ ⟨b0, b1, b2, b3, true, b5, b6, b7, b8, b9, v17, v18, v19, v20, (.agg #[.int .i64 k1, .int .i64 n1]), v22, v9, v10, rfl, by simp only [Act.put, List.getElem_toArray, List.getElem_cons_succ, List.getElem_cons_zero, List.setIfInBounds_toArray, List.set_cons_zero, List.set_cons_succ], HW, D8, D9, C0, C1, C2, C3, (fun _ => rfl), C5, C6, C7⟩
    · refine wpOp_shut rfl (fun K' hK => ?_)
      simp only [Act.put, List.getElem_toArray, List.getElem_cons_succ, List.getElem_cons_zero, List.setIfInBounds_toArray, List.set_cons_zero, List.set_cons_succ]
      obtain rfl := C3 rfl
      obtain rfl := C4 rfl
      go_simp
      refine (HF2.out w' _ (HQc.out.all HW)).mono ?_
      rintro e w2 ⟨u, rfl, ho, hb⟩
      obtain ⟨ua, uc, rfl, -, -⟩ := owns_slice ho
      refine hK.out _ _ ⟨b0, b1, b2, true, true, true, b6, b7, b8, b9, v17, v18, v19, (.slice qa P.length qc), (.agg #[.int .i64 k1, .int .i64 n1]), (.agg #[.int .i64 (stA s : Nat), .int .i64 (stR s : Nat), .slice ua (stN s).length uc, .bool s.isSome]), v9, v10, rfl, by simp only [Act.put, List.getElem_toArray, List.getElem_cons_succ, List.getElem_cons_zero, List.setIfInBounds_toArray, List.set_cons_zero, List.set_cons_succ], (HW.trans (hb.mono HW.size)), D8, (fun h => absurd (D9 h).1 Bool.false_ne_true), C0, C1, (fun h => by obtain ⟨ua, uc, e, ho⟩ := C2 h; exact ⟨ua, uc, e, owns_below ho hb⟩), C3, C4, (fun _ => ⟨ua, uc, rfl, owns_base ho HW.size⟩), (fun h => by obtain ⟨g, z, e, hg, hz, h1, h2⟩ := C6 h; exact ⟨g, z, e, hg, (hb.block _ (zlt hz)).trans hz, h1, h2⟩), (fun h => by obtain ⟨g, z, e, hg, hz, h1, h2⟩ := C7 h; exact ⟨g, z, e, hg, (hb.block _ (zlt hz)).trans hz, h1, (fun h8 => absurd (D9 h8).1 Bool.false_ne_true)⟩)⟩
    · refine wpOp_shut rfl (fun K' hK => ?_)
      simp only [Act.put, List.getElem_toArray, List.getElem_cons_succ, List.getElem_cons_zero, List.setIfInBounds_toArray, List.set_cons_zero, List.set_cons_succ]
      go_simp
      have hb : Below w'.heap.size w' (w'.alloc (.cells #[.int .i64 0, .int .i64 0, .slice none 0 0, .bool false] 32)) := (Below.refl _ w').alloc (Nat.le_refl _) _
      refine hK.out _ _ ⟨b0, b1, b2, b3, b4, b5, true, b7, b8, b9, v17, v18, v19, v20, v21, v22, (.pointer (some ⟨w'.heap.size, 0, none⟩)), v10, rfl, by simp only [Act.put, List.getElem_toArray, List.getElem_cons_succ, List.getElem_cons_zero, List.setIfInBounds_toArray, List.set_cons_zero, List.set_cons_succ], (HW.alloc HW.size _), (fun h => absurd (D8 h).2 Bool.false_ne_true), D9, C0, C1, (fun h => by obtain ⟨ua, uc, e, ho⟩ := C2 h; exact ⟨ua, uc, e, owns_below ho hb⟩), C3, C4, (fun h => by obtain ⟨ua, uc, e, ho⟩ := C5 h; exact ⟨ua, uc, e, owns_below ho hb⟩), (fun _ => ⟨_, _, rfl, HW.size, heap_alloc_new _ _, fun _ => rfl, fun h8 => absurd (D8 h8).2 Bool.false_ne_true⟩), (fun h => by obtain ⟨g, z, e, hg, hz, h1, h2⟩ := C7 h; exact ⟨g, z, e, hg, (hb.block _ (zlt hz)).trans hz, h1, h2⟩)⟩
    · refine wpOp_shut rfl (fun K' hK => ?_)
      simp only [Act.put, List.getElem_toArray, List.getElem_cons_succ, List.getElem_cons_zero, List.setIfInBounds_toArray, List.set_cons_zero, List.set_cons_succ]
      go_simp
      have hb : Below w'.heap.size w' (w'.alloc (.cells #[.int .i64 0, .int .i64 0, .slice none 0 0, .bool false] 27)) := (Below.refl _ w').alloc (Nat.le_refl _) _
      refine hK.out _ _ ⟨b0, b1, b2, b3, b4, b5, b6, true, b8, b9, v17, v18, v19, v20, v21, v22, v9, (.pointer (some ⟨w'.heap.size, 0, none⟩)), rfl, by simp only [Act.put, List.getElem_toArray, List.getElem_cons_succ, List.getElem_cons_zero, List.setIfInBounds_toArray, List.set_cons_zero, List.set_cons_succ], (HW.alloc HW.size _), D8, (fun h => absurd (D9 h).2 Bool.false_ne_true), C0, C1, (fun h => by obtain ⟨ua, uc, e, ho⟩ := C2 h; exact ⟨ua, uc, e, owns_below ho hb⟩), C3, C4, (fun h => by obtain ⟨ua, uc, e, ho⟩ := C5 h; exact ⟨ua, uc, e, owns_below ho hb⟩), (fun h => by obtain ⟨g, z, e, hg, hz, h1, h2⟩ := C6 h; exact ⟨g, z, e, hg, (hb.block _ (zlt hz)).trans hz, h1, h2⟩), (fun _ => ⟨_, _, rfl, HW.size, heap_alloc_new _ _, fun _ => rfl, fun h8 => absurd (D9 h8).2 Bool.false_ne_true⟩)⟩
    · refine wpOp_shut rfl (fun K' hK => ?_)
      simp only [Act.put, List.getElem_toArray, List.getElem_cons_succ, List.getElem_cons_zero, List.setIfInBounds_toArray, List.set_cons_zero, List.set_cons_succ]
      obtain ⟨ua, uc, rfl, ho⟩ := C2 rfl
      obtain ⟨g, z, rfl, hg, hz, h1, -⟩ := C6 rfl
      obtain rfl := h1 rfl
      obtain ⟨m0, m1, m2, m3, f0, f1, f2, f3⟩ := zero4 hz
      go_simp
      refine hK.out _ _ ⟨b0, b1, true, b3, b4, b5, true, b7, true, b9, v17, v18, (.agg #[.int .i64 (stA s : Nat), .int .i64 (stR s : Nat), .slice ua (stN s).length uc, .bool s.isSome]), v20, v21, v22, (.pointer (some ⟨g, 0, none⟩)), v10, rfl, by simp only [Act.put, List.getElem_toArray, List.getElem_cons_succ, List.getElem_cons_zero, List.setIfInBounds_toArray, List.set_cons_zero, List.set_cons_succ], (set4_below HW _ _ _ _ _ hg), (fun _ => ⟨rfl, rfl⟩), D9, C0, C1, (fun _ => ⟨ua, uc, rfl, owns_by ho fun c hc => set4_other _ _ _ _ _ _ _ (owns_ne ho hz (by decide) c hc)⟩), C3, C4, (fun h => by obtain ⟨ua', uc', e, ho⟩ := C5 h; exact ⟨ua', uc', e, owns_by ho fun c hc => set4_other _ _ _ _ _ _ _ (owns_ne ho hz (by decide) c hc)⟩), (fun _ => ⟨g, _, rfl, hg, set4_heap _ _ _ _ hz, (fun h => Bool.noConfusion h), fun _ => rfl⟩), (fun h => by obtain ⟨g', z', e, hg', hz', h1', h2'⟩ := C7 h; exact ⟨g', z', e, hg', (set4_other _ _ _ _ _ _ _ (blk_ne hz' hz (by decide))).trans hz', h1', h2'⟩)⟩
    · refine wpOp_shut rfl (fun K' hK => ?_)
      simp only [Act.put, List.getElem_toArray, List.getElem_cons_succ, List.getElem_cons_zero, List.setIfInBounds_toArray, List.set_cons_zero, List.set_cons_succ]
      obtain ⟨ua, uc, rfl, ho⟩ := C5 rfl
      obtain ⟨g, z, rfl, hg, hz, h1, -⟩ := C7 rfl
      obtain rfl := h1 rfl
      obtain ⟨m0, m1, m2, m3, f0, f1, f2, f3⟩ := zero4r hz
      go_simp
      refine hK.out _ _ ⟨b0, b1, b2, b3, b4, true, b6, true, b8, true, v17, v18, v19, v20, v21, (.agg #[.int .i64 (stA s : Nat), .int .i64 (stR s : Nat), .slice ua (stN s).length uc, .bool s.isSome]), v9, (.pointer (some ⟨g, 0, none⟩)), rfl, by simp only [Act.put, List.getElem_toArray, List.getElem_cons_succ, List.getElem_cons_zero, List.setIfInBounds_toArray, List.set_cons_zero, List.set_cons_succ], (set4_below HW _ _ _ _ _ hg), D8, (fun _ => ⟨rfl, rfl⟩), C0, C1, (fun h => by obtain ⟨ua', uc', e, ho⟩ := C2 h; exact ⟨ua', uc', e, owns_by ho fun c hc => set4_other _ _ _ _ _ _ _ (owns_ne ho hz (by decide) c hc)⟩), C3, C4, (fun _ => ⟨ua, uc, rfl, owns_by ho fun c hc => set4_other _ _ _ _ _ _ _ (owns_ne ho hz (by decide) c hc)⟩), (fun h => by obtain ⟨g', z', e, hg', hz', h1', h2'⟩ := C6 h; exact ⟨g', z', e, hg', (set4_other _ _ _ _ _ _ _ (blk_ne hz' hz (by decide))).trans hz', h1', h2'⟩), (fun _ => ⟨g, _, rfl, hg, set4_heap _ _ _ _ hz, (fun h => Bool.noConfusion h), fun _ => rfl⟩)⟩
  case fin =>
    rintro L a w' ⟨b0, b1, b2, b3, b4, b5, b6, b7, b8, b9, v17, v18, v19, v20, v21, v22, v9, v10, rfl, rfl, HW, D8, D9, C0, C1, C2, C3, C4, C5, C6, C7⟩ hr
    have hz : b0 = true ∧ b1 = true ∧ b2 = true ∧ b3 = true ∧ b4 = true ∧ b5 = true ∧ b6 = true ∧ b7 = true ∧ b8 = true ∧ b9 = true := ready_end 10 (fun bs => match bs with | [b0, b1, b2, b3, b4, b5, b6, b7, b8, b9] => b0 && b1 && b2 && b3 && b4 && b5 && b6 && b7 && b8 && b9 | _ => false) (by kernel_rfl) [b0, b1, b2, b3, b4, b5, b6, b7, b8, b9] rfl hr |> fun h => (by simpa only [Bool.and_eq_true, and_assoc] using h)
    obtain ⟨rfl, rfl, rfl, rfl, rfl, rfl, rfl, rfl, rfl, rfl⟩ := hz
    clear hr
    simp only [Act.put, List.getElem_toArray, List.getElem_cons_succ, List.getElem_cons_zero, List.setIfInBounds_toArray, List.set_cons_zero, List.set_cons_succ]
    obtain ⟨ua, uc, rfl, ho1⟩ := C2 rfl
    obtain ⟨ub, ud, rfl, ho2⟩ := C5 rfl
    obtain ⟨g9, z9, rfl, hg9, hz9, -, h9⟩ := C6 rfl
    obtain ⟨g10, z10, rfl, hg10, hz10, -, h10⟩ := C7 rfl
    obtain rfl := C0 rfl
    obtain rfl := C1 rfl
    obtain rfl := C3 rfl
    obtain rfl := C4 rfl
    have e9 := h9 rfl
    have e10 := h10 rfl
    simp only [Value.agg.injEq] at e9 e10
    subst e9
    subst e10
    clear C0 C1 C2 C3 C4 C5 C6 C7 D8 D9 h9 h10
    obtain ⟨xd, hxd⟩ : ∃ x, x = w' := ⟨_, rfl⟩
    subst hxd
    have hsd := HW.size
    have HWd := hid HW
    have HBd := hid (HBc.out.trans (HW.mono (by omega)))
    have HBbd := hid (HBbc.out.trans (HW.mono hbsc))
    have HO1 := hid ho1
    have HO2 := hid ho2
    have HZ9 := hid hz9
    have HZ10 := hid hz10
    have hl9 : g9 < xd.heap.size := zlt hz9
    have hl10 : g10 < xd.heap.size := zlt hz10
    have HGd := hid ((HW.block w.heap.size (by omega)).trans HGc.out)
    have HOd := hid ((HW.block (w.heap.size + 1) (by omega)).trans HOc.out)
    have HMd := hid (HMc.out.all HW)
    have HQd := hid (HQc.out.all HW)
    have hn1000 : (stN s).length ≤ 1000 := by omega
    obtain ⟨Q1, hQ1⟩ : ∃ Q, Q = resR P s.isSome (stR s : Nat) ((stN s).map Int.ofNat) (addT (stA s : Nat) (max n1 1)) := ⟨_, rfl⟩
    have HQ1 := hid hQ1
    have hlq : Q1.length = P.length := by rw [hQ1, resR_len]
    have HLQ := hid hlq
    have HRQ := hid (show ∀ r ∈ Q1, r.length ≤ 1000 by rw [hQ1]; exact resR_rlen HP20.out _ _ _ _)
    have hwd : w.heap.size + 2 ≤ xd.heap.size := by omega
    clear ho1 ho2 hz9 hz10 HGc HOc HMc HQc HW HBc hQ1 hlq HF1 HF2
    have d0 : xd.cell? ⟨g9, 0, none⟩ = some (.int .i64 (stA s : Nat)) := (cell_of_row xd _ _ _ _ _ HZ9.out).trans rfl
    have D0 : xd.drew.cell? ⟨g9, 0, none⟩ = some (.int .i64 (stA s : Nat)) := d0
    have d1 : xd.cell? ⟨g9, 1, none⟩ = some (.int .i64 (stR s : Nat)) := (cell_of_row xd _ _ _ _ _ HZ9.out).trans rfl
    have D1 : xd.drew.cell? ⟨g9, 1, none⟩ = some (.int .i64 (stR s : Nat)) := d1
    have d2 : xd.cell? ⟨g9, 2, none⟩ = some (.slice ua (stN s).length uc) := (cell_of_row xd _ _ _ _ _ HZ9.out).trans rfl
    have D2 : xd.drew.cell? ⟨g9, 2, none⟩ = some (.slice ua (stN s).length uc) := d2
    have d3 : xd.cell? ⟨g9, 3, none⟩ = some (.bool s.isSome) := (cell_of_row xd _ _ _ _ _ HZ9.out).trans rfl
    have D3 : xd.drew.cell? ⟨g9, 3, none⟩ = some (.bool s.isSome) := d3
    have d4 : xd.cell? ⟨g10, 0, none⟩ = some (.int .i64 (stA s : Nat)) := (cell_of_row xd _ _ _ _ _ HZ10.out).trans rfl
    have D4 : xd.drew.cell? ⟨g10, 0, none⟩ = some (.int .i64 (stA s : Nat)) := d4
    have d5 : xd.cell? ⟨g10, 1, none⟩ = some (.int .i64 (stR s : Nat)) := (cell_of_row xd _ _ _ _ _ HZ10.out).trans rfl
    have D5 : xd.drew.cell? ⟨g10, 1, none⟩ = some (.int .i64 (stR s : Nat)) := d5
    have d6 : xd.cell? ⟨g10, 2, none⟩ = some (.slice ub (stN s).length ud) := (cell_of_row xd _ _ _ _ _ HZ10.out).trans rfl
    have D6 : xd.drew.cell? ⟨g10, 2, none⟩ = some (.slice ub (stN s).length ud) := d6
    have d7 : xd.cell? ⟨g10, 3, none⟩ = some (.bool s.isSome) := (cell_of_row xd _ _ _ _ _ HZ10.out).trans rfl
    have D7 : xd.drew.cell? ⟨g10, 3, none⟩ = some (.bool s.isSome) := d7
    have d8 : xd.cell? ⟨w.heap.size, 1, none⟩ = some (.int .i64 n1) := (cell_of_row xd _ _ _ _ _ HGd.out).trans rfl
    have D8 : xd.drew.cell? ⟨w.heap.size, 1, none⟩ = some (.int .i64 n1) := d8
    go_wp2_with fail
    have HK1 := hid (fun w8 (hb : Below xd.heap.size xd w8) => same14_any w8 (stA s : Nat) (stR s : Nat) s.isSome (.slice ua (stN s).length uc) (.slice ub (stN s).length ud) (stN s) (RdV.of_own (owns_below HO1.out hb)) (RdV.of_own (owns_below HO2.out hb)) hn1000)
    go_region_held3 (fun w' => w'.cell? ⟨g9, 0, none⟩ = some (.int .i64 (stA s : Nat)) ∧ w'.cell? ⟨g9, 1, none⟩ = some (.int .i64 (stR s : Nat)) ∧ w'.cell? ⟨g9, 2, none⟩ = some (.slice ua (stN s).length uc) ∧ w'.cell? ⟨g9, 3, none⟩ = some (.bool s.isSome) ∧ w'.cell? ⟨g10, 0, none⟩ = some (.int .i64 (stA s : Nat)) ∧ w'.cell? ⟨g10, 1, none⟩ = some (.int .i64 (stR s : Nat)) ∧ w'.cell? ⟨g10, 2, none⟩ = some (.slice ub (stN s).length ud) ∧ w'.cell? ⟨g10, 3, none⟩ = some (.bool s.isSome) ∧ w'.cell? ⟨w.heap.size, 1, none⟩ = some (.int .i64 n1))
      (first | (with_reducible refine ⟨?_, ?_, ?_, ?_, ?_, ?_, ?_, ?_, ?_⟩ <;> assumption) | fail)
      (first
        | (go_at_call 16; (with_reducible refine (HK1.out _ (Below.refl _ _).drew).mono ?_); rintro e y1 ⟨rfl, hb1⟩; have hp1 : Below xd.heap.size xd y1 := (Below.refl _ _).drew.trans hb1; have hz1 : xd.heap.size ≤ y1.heap.size := hp1.size; have hq1 : Below xd.heap.size xd y1 := hp1; have r10 := (hp1.cell (p := ⟨g9, 0, none⟩) (by show g9 < _; omega)).trans d0; have r11 := (hp1.cell (p := ⟨g9, 1, none⟩) (by show g9 < _; omega)).trans d1; have r12 := (hp1.cell (p := ⟨g9, 2, none⟩) (by show g9 < _; omega)).trans d2; have r13 := (hp1.cell (p := ⟨g9, 3, none⟩) (by show g9 < _; omega)).trans d3; have r14 := (hp1.cell (p := ⟨g10, 0, none⟩) (by show g10 < _; omega)).trans d4; have r15 := (hp1.cell (p := ⟨g10, 1, none⟩) (by show g10 < _; omega)).trans d5; have r16 := (hp1.cell (p := ⟨g10, 2, none⟩) (by show g10 < _; omega)).trans d6; have r17 := (hp1.cell (p := ⟨g10, 3, none⟩) (by show g10 < _; omega)).trans d7; have r18 := (hp1.cell (p := ⟨w.heap.size, 1, none⟩) (by show w.heap.size < _; omega)).trans d8; have HK2 := hid (fun w8 (hb : Below y1.heap.size y1 w8) => (by have h1 := xreserve_any w8 _ P (stA s : Nat) (stR s : Nat) n1 ((stN s).map Int.ofNat) s.isSome (.slice ua (stN s).length uc) (HMd.out.all (hq1.trans (hb.mono (by omega)))) hP10 HP20.out (by rw [iw_iv]; exact (RdV.of_own (owns_below HO1.out (hq1.trans (hb.mono (by omega))))).weak) (by rw [List.length_map]; exact hn1000); rw [← HQ1.out] at h1; exact h1)); clear hb1 hp1)
        | (go_at_call 18; (with_reducible refine (HK2.out _ (Below.refl _ _)).mono ?_); rintro e y2 ⟨bc3, gg3, rfl, hpf3, hb2⟩; have hp2 : Below y1.heap.size y1 y2 := hb2; have hz2 : y1.heap.size ≤ y2.heap.size := hp2.size; have hq2 : Below xd.heap.size xd y2 := hq1.trans (hp2.mono (by omega)); have r20 := (hp2.cell (p := ⟨g9, 0, none⟩) (by show g9 < _; omega)).trans r10; have r21 := (hp2.cell (p := ⟨g9, 1, none⟩) (by show g9 < _; omega)).trans r11; have r22 := (hp2.cell (p := ⟨g9, 2, none⟩) (by show g9 < _; omega)).trans r12; have r23 := (hp2.cell (p := ⟨g9, 3, none⟩) (by show g9 < _; omega)).trans r13; have r24 := (hp2.cell (p := ⟨g10, 0, none⟩) (by show g10 < _; omega)).trans r14; have r25 := (hp2.cell (p := ⟨g10, 1, none⟩) (by show g10 < _; omega)).trans r15; have r26 := (hp2.cell (p := ⟨g10, 2, none⟩) (by show g10 < _; omega)).trans r16; have r27 := (hp2.cell (p := ⟨g10, 3, none⟩) (by show g10 < _; omega)).trans r17; have r28 := (hp2.cell (p := ⟨w.heap.size, 1, none⟩) (by show w.heap.size < _; omega)).trans r18; have HPF3 := hid hpf3; clear hpf3; have HK3 := hid (fun w8 (hb : Below y2.heap.size y2 w8) => (by have h1 := rreserve_any w8 _ P (stA s : Nat) (stR s : Nat) n1 ((stN s).map Int.ofNat) s.isSome (.slice ub (stN s).length ud) (HQd.out.all (hq2.trans (hb.mono (by omega)))) hP10 HP20.out (by rw [iw_iv]; exact (RdV.of_own (owns_below HO2.out (hq2.trans (hb.mono (by omega))))).weak) (by rw [List.length_map]; exact hn1000); rw [← HQ1.out] at h1; exact h1)); clear hb2 hp2)
        | (go_at_call 19; (with_reducible refine (HK3.out _ (Below.refl _ _)).mono ?_); rintro e y3 ⟨u7, rfl, hv7, hb3, -⟩; have hp3 : Below y2.heap.size y2 y3 := hb3; have hz3 : y2.heap.size ≤ y3.heap.size := hp3.size; have hq3 : Below xd.heap.size xd y3 := hq2.trans (hp3.mono (by omega)); have r30 := (hp3.cell (p := ⟨g9, 0, none⟩) (by show g9 < _; omega)).trans r20; have r31 := (hp3.cell (p := ⟨g9, 1, none⟩) (by show g9 < _; omega)).trans r21; have r32 := (hp3.cell (p := ⟨g9, 2, none⟩) (by show g9 < _; omega)).trans r22; have r33 := (hp3.cell (p := ⟨g9, 3, none⟩) (by show g9 < _; omega)).trans r23; have r34 := (hp3.cell (p := ⟨g10, 0, none⟩) (by show g10 < _; omega)).trans r24; have r35 := (hp3.cell (p := ⟨g10, 1, none⟩) (by show g10 < _; omega)).trans r25; have r36 := (hp3.cell (p := ⟨g10, 2, none⟩) (by show g10 < _; omega)).trans r26; have r37 := (hp3.cell (p := ⟨g10, 3, none⟩) (by show g10 < _; omega)).trans r27; have r38 := (hp3.cell (p := ⟨w.heap.size, 1, none⟩) (by show w.heap.size < _; omega)).trans r28; have HPF4 := hid (HPF3.out.below hb3 (Nat.le_refl _)); have HV7 := hid hv7; clear hv7; have HK4 := hid (fun w8 (hb : Below y3.heap.size y3 w8) => (by have h1 := samep_any w8 _ u7 Q1 (RpAt.rdp (HPF4.out.below hb (Nat.le_refl _))) (HV7.out.all hb) (by rw [HLQ.out]; exact hP10) HRQ.out; rw [HLQ.out] at h1; exact h1)); clear hb3 hp3)
        | (go_at_call 17; (with_reducible refine (HK4.out _ (Below.refl _ _)).mono ?_); rintro e y4 ⟨rfl, hb4⟩; have hp4 : Below y3.heap.size y3 y4 := hb4; have hz4 : y3.heap.size ≤ y4.heap.size := hp4.size; have hq4 : Below xd.heap.size xd y4 := hq3.trans (hp4.mono (by omega)); have r40 := (hp4.cell (p := ⟨g9, 0, none⟩) (by show g9 < _; omega)).trans r30; have r41 := (hp4.cell (p := ⟨g9, 1, none⟩) (by show g9 < _; omega)).trans r31; have r42 := (hp4.cell (p := ⟨g9, 2, none⟩) (by show g9 < _; omega)).trans r32; have r43 := (hp4.cell (p := ⟨g9, 3, none⟩) (by show g9 < _; omega)).trans r33; have r44 := (hp4.cell (p := ⟨g10, 0, none⟩) (by show g10 < _; omega)).trans r34; have r45 := (hp4.cell (p := ⟨g10, 1, none⟩) (by show g10 < _; omega)).trans r35; have r46 := (hp4.cell (p := ⟨g10, 2, none⟩) (by show g10 < _; omega)).trans r36; have r47 := (hp4.cell (p := ⟨g10, 3, none⟩) (by show g10 < _; omega)).trans r37; have r48 := (hp4.cell (p := ⟨w.heap.size, 1, none⟩) (by show w.heap.size < _; omega)).trans r38; clear hb4 hp4)
        | fail)
    have HQxd := hid hq4
    obtain ⟨xe, hxe⟩ : ∃ x, x = y4 := ⟨_, rfl⟩
    subst hxe
    have HBe := hid (HBd.out.trans (HQxd.out.mono (by omega)))
    have hse : w.heap.size + 2 ≤ xe.heap.size := by have := HQxd.out.size; omega
    have HGe := hid ((HQxd.out.block w.heap.size (by omega)).trans HGd.out)
    have HMe := hid (HMd.out.all HQxd.out)
    have HQe := hid (HQd.out.all HQxd.out)
    have hga := (HQxd.out.block (w.heap.size + 1) (by omega)).trans HOd.out
    have c2 : xe.cell? ⟨w.heap.size + 1, 2, none⟩ = some (.slice NA NL NC) := (cell_of_row _ _ _ _ _ _ hga).trans rfl
    have f2 : xe.frozen? ⟨w.heap.size + 1, 2, none⟩ = false := frozen_of_row _ _ _ _ _ hga
    have HGa := hid hga
    have HBbe := hid (HBbd.out.trans (HQxd.out.mono (by omega)))
    have HBce := hid (HWd.out.trans (HQxd.out.mono hsd))
    clear hga HMd HQd HGd HOd HO1 HO2 HZ9 HZ10 HQ1 HRQ HLQ HBd HBbd HQxd d0 d1 d2 d3 d4 d5 d6 d7 d8 D0 D1 D2 D3 D4 D5 D6 D7 D8 HPF3 HPF4 HV7 hq1 hq2 hq3 hq4
    go_wp2_with fail
    obtain ⟨xf, hxf⟩ : ∃ x, x = xe.setCell ⟨w.heap.size + 1, 2, none⟩ (.slice NA n NC) := ⟨_, rfl⟩
    have HOf := hid (show xf.heap[w.heap.size + 1]? = some (.cells #[.int .i64 at_, .int .i64 row, .slice NA n NC, .bool ok] 27 (0, 0)) by
      rw [hxf, heap_setCell_arr _ _ _ _ _ _ _ HGa.out]; simp)
    have HGf := hid (show xf.heap[w.heap.size]? = some (.cells #[.int .i64 k1, .int .i64 n1] 24 (0, 0)) by
      rw [hxf, Below.heap_setCell _ _ _ _ (show w.heap.size ≠ w.heap.size + 1 by omega)]; exact HGe.out)
    have HBf := hid (show Below w.heap.size w xf by rw [hxf]; exact HBe.out.setCell (by show w.heap.size ≤ w.heap.size + 1; omega) _)
    have hsf : w.heap.size + 2 ≤ xf.heap.size := by rw [hxf]; simpa [World.setCell] using hse
    have HMf := hid (HKM.out xf (by rw [hxf]; exact (Keeps.of_below HBbe.out fun i hi hge => absurd hi (by omega)).setCell (p := ⟨w.heap.size + 1, 2, none⟩) (fun _ => hgo) _))
    have HQf := hid (HKQ.out xf (by rw [hxf]; exact (Keeps.of_below (HBce.out) fun i hi hge => absurd hi (by omega)).setCell (p := ⟨w.heap.size + 1, 2, none⟩) (fun _ => (show w.heap.size + 1 < xb.heap.size by omega)) _))
    rw [← hxf]
    have hn1000' : ns.length ≤ 1000 := by rw [HNN.out]; omega
    obtain ⟨Q2, hQ2⟩ : ∃ Q, Q = resR P ok row ns (addT at_ (max n1 1)) := ⟨_, rfl⟩
    have HQ2 := hid hQ2
    have hlq2 : Q2.length = P.length := by rw [hQ2, resR_len]
    have HLQ2 := hid hlq2
    have HRQ2 := hid (show ∀ r ∈ Q2, r.length ≤ 1000 by rw [hQ2]; exact resR_rlen HP20.out _ _ _ _)
    clear hxf c2 f2 HGa HMe HQe HGe HBe hse hQ2 hlq2 hmn hmn2
    have d0 : xf.cell? ⟨w.heap.size + 1, 0, none⟩ = some (.int .i64 at_) := (cell_of_row xf _ _ _ _ _ HOf.out).trans rfl
    have D0 : xf.drew.cell? ⟨w.heap.size + 1, 0, none⟩ = some (.int .i64 at_) := d0
    have d1 : xf.cell? ⟨w.heap.size + 1, 1, none⟩ = some (.int .i64 row) := (cell_of_row xf _ _ _ _ _ HOf.out).trans rfl
    have D1 : xf.drew.cell? ⟨w.heap.size + 1, 1, none⟩ = some (.int .i64 row) := d1
    have d2 : xf.cell? ⟨w.heap.size + 1, 2, none⟩ = some (.slice NA n NC) := (cell_of_row xf _ _ _ _ _ HOf.out).trans rfl
    have D2 : xf.drew.cell? ⟨w.heap.size + 1, 2, none⟩ = some (.slice NA n NC) := d2
    have d3 : xf.cell? ⟨w.heap.size + 1, 3, none⟩ = some (.bool ok) := (cell_of_row xf _ _ _ _ _ HOf.out).trans rfl
    have D3 : xf.drew.cell? ⟨w.heap.size + 1, 3, none⟩ = some (.bool ok) := d3
    have d4 : xf.cell? ⟨w.heap.size, 1, none⟩ = some (.int .i64 n1) := (cell_of_row xf _ _ _ _ _ HGf.out).trans rfl
    have D4 : xf.drew.cell? ⟨w.heap.size, 1, none⟩ = some (.int .i64 n1) := d4
    go_wp2_with fail
    have HK1 := hid (fun w8 (hb : Below xf.heap.size xf w8) => (by have h1 := xreserve_any w8 _ P at_ row n1 ns ok (.slice NA n NC) (HMf.out.all hb) hP10 HP20.out (HRW.out.all (HBf.out.trans (hb.mono (by omega)))) hn1000'; rw [← HQ2.out] at h1; exact h1))
    go_region_held3 (fun w' => w'.cell? ⟨w.heap.size + 1, 0, none⟩ = some (.int .i64 at_) ∧ w'.cell? ⟨w.heap.size + 1, 1, none⟩ = some (.int .i64 row) ∧ w'.cell? ⟨w.heap.size + 1, 2, none⟩ = some (.slice NA n NC) ∧ w'.cell? ⟨w.heap.size + 1, 3, none⟩ = some (.bool ok) ∧ w'.cell? ⟨w.heap.size, 1, none⟩ = some (.int .i64 n1))
      (first | (with_reducible refine ⟨?_, ?_, ?_, ?_, ?_⟩ <;> assumption) | fail)
      (first
        | (go_at_call 18; (with_reducible refine (HK1.out _ (Below.refl _ _).drew).mono ?_); rintro e y1 ⟨bc3, gg3, rfl, hpf3, hb1⟩; have hp1 : Below xf.heap.size xf y1 := (Below.refl _ _).drew.trans hb1; have hz1 : xf.heap.size ≤ y1.heap.size := hp1.size; have hq1 : Below xf.heap.size xf y1 := hp1; have r10 := (hp1.cell (p := ⟨w.heap.size + 1, 0, none⟩) (by show w.heap.size + 1 < _; omega)).trans d0; have r11 := (hp1.cell (p := ⟨w.heap.size + 1, 1, none⟩) (by show w.heap.size + 1 < _; omega)).trans d1; have r12 := (hp1.cell (p := ⟨w.heap.size + 1, 2, none⟩) (by show w.heap.size + 1 < _; omega)).trans d2; have r13 := (hp1.cell (p := ⟨w.heap.size + 1, 3, none⟩) (by show w.heap.size + 1 < _; omega)).trans d3; have r14 := (hp1.cell (p := ⟨w.heap.size, 1, none⟩) (by show w.heap.size < _; omega)).trans d4; have HPF3 := hid hpf3; clear hpf3; have HK2 := hid (fun w8 (hb : Below y1.heap.size y1 w8) => (by have h1 := rreserve_any w8 _ P at_ row n1 ns ok (.slice NA n NC) (HQf.out.all (hq1.trans (hb.mono (by omega)))) hP10 HP20.out (HRW.out.all (HBf.out.trans ((hq1.trans (hb.mono (by omega))).mono (by omega)))) hn1000'; rw [← HQ2.out] at h1; exact h1)); clear hb1 hp1)
        | (go_at_call 19; (with_reducible refine (HK2.out _ (Below.refl _ _)).mono ?_); rintro e y2 ⟨u8, rfl, hv7, hb2, -⟩; have hp2 : Below y1.heap.size y1 y2 := hb2; have hz2 : y1.heap.size ≤ y2.heap.size := hp2.size; have hq2 : Below xf.heap.size xf y2 := hq1.trans (hp2.mono (by omega)); have r20 := (hp2.cell (p := ⟨w.heap.size + 1, 0, none⟩) (by show w.heap.size + 1 < _; omega)).trans r10; have r21 := (hp2.cell (p := ⟨w.heap.size + 1, 1, none⟩) (by show w.heap.size + 1 < _; omega)).trans r11; have r22 := (hp2.cell (p := ⟨w.heap.size + 1, 2, none⟩) (by show w.heap.size + 1 < _; omega)).trans r12; have r23 := (hp2.cell (p := ⟨w.heap.size + 1, 3, none⟩) (by show w.heap.size + 1 < _; omega)).trans r13; have r24 := (hp2.cell (p := ⟨w.heap.size, 1, none⟩) (by show w.heap.size < _; omega)).trans r14; have HPF4 := hid (HPF3.out.below hb2 (Nat.le_refl _)); have HV7 := hid hv7; clear hv7; have HK3 := hid (fun w8 (hb : Below y2.heap.size y2 w8) => (by have h1 := samep_any w8 _ u8 Q2 (RpAt.rdp (HPF4.out.below hb (Nat.le_refl _))) (HV7.out.all hb) (by rw [HLQ2.out]; exact hP10) HRQ2.out; rw [HLQ2.out] at h1; exact h1)); clear hb2 hp2)
        | (go_at_call 17; (with_reducible refine (HK3.out _ (Below.refl _ _)).mono ?_); rintro e y3 ⟨rfl, hb3⟩; have hp3 : Below y2.heap.size y2 y3 := hb3; have hz3 : y2.heap.size ≤ y3.heap.size := hp3.size; have hq3 : Below xf.heap.size xf y3 := hq2.trans (hp3.mono (by omega)); have r30 := (hp3.cell (p := ⟨w.heap.size + 1, 0, none⟩) (by show w.heap.size + 1 < _; omega)).trans r20; have r31 := (hp3.cell (p := ⟨w.heap.size + 1, 1, none⟩) (by show w.heap.size + 1 < _; omega)).trans r21; have r32 := (hp3.cell (p := ⟨w.heap.size + 1, 2, none⟩) (by show w.heap.size + 1 < _; omega)).trans r22; have r33 := (hp3.cell (p := ⟨w.heap.size + 1, 3, none⟩) (by show w.heap.size + 1 < _; omega)).trans r23; have r34 := (hp3.cell (p := ⟨w.heap.size, 1, none⟩) (by show w.heap.size < _; omega)).trans r24; have HK4 := hid (fun w8 (hb : Below y3.heap.size y3 w8) => samep_any w8 _ _ P (HMf.out.all (hq3.trans (hb.mono (by omega)))) (HQf.out.all (hq3.trans (hb.mono (by omega)))) hP10 HP20.out); clear hb3 hp3)
        | (go_at_call 17; (with_reducible refine (HK4.out _ (Below.refl _ _)).mono ?_); rintro e y4 ⟨rfl, hb4⟩; have hp4 : Below y3.heap.size y3 y4 := hb4; have hz4 : y3.heap.size ≤ y4.heap.size := hp4.size; have hq4 : Below xf.heap.size xf y4 := hq3.trans (hp4.mono (by omega)); have r40 := (hp4.cell (p := ⟨w.heap.size + 1, 0, none⟩) (by show w.heap.size + 1 < _; omega)).trans r30; have r41 := (hp4.cell (p := ⟨w.heap.size + 1, 1, none⟩) (by show w.heap.size + 1 < _; omega)).trans r31; have r42 := (hp4.cell (p := ⟨w.heap.size + 1, 2, none⟩) (by show w.heap.size + 1 < _; omega)).trans r32; have r43 := (hp4.cell (p := ⟨w.heap.size + 1, 3, none⟩) (by show w.heap.size + 1 < _; omega)).trans r33; have r44 := (hp4.cell (p := ⟨w.heap.size, 1, none⟩) (by show w.heap.size < _; omega)).trans r34; clear hb4 hp4)
        | fail)
    have HQxf := hid hq4
    go_wp2
    go_ret
    exact ⟨by simp, HBf.out.trans (HQxf.out.mono (by omega))⟩

/-! ### THE ROW's STEP -/
set_option maxRecDepth 100000 in
theorem lifted (os : Os) (started : os.Started) (H : Type) (enc : TypeId × Value → H) :
    ReturnsInHanded {} Try.checked os 3 .any (Rows.planFirstSpec.pre6 enc Try.prog Try.f3 Rows.planFirstRow.domain false) (Rows.planFirstSpec.post enc Try.prog Try.f3 false true false false) := by
  refine returnsInHanded_of_change (C := Try.checked) own started (by kernel_rfl) Try.func3
    (ChangeSpec.witness6 (enc := enc) (C := Try.checked) false ⟨#[], #[.slice none 0 0, .agg #[.int .i64 0, .int .i64 0], .agg #[.int .i64 0, .int .i64 0, .slice none 0 0, .bool false]], []⟩ 8 (by kernel_rfl) (by kernel_rfl) (by kernel_rfl) (by kernel_rfl)) ?_
  intro W base args ds gs before hval0 hW hcnd _
  have hval : ∀ (j : Nat) t v, Try.f3.params[j]? = some t → args[j]? = some v → Value.okWide Try.prog W .any base t v := hval0
  have hW' := hW
  obtain ⟨p, q, hA0, hV, rfl, hfz, hnd⟩ := hW
  have hA : DataW.TrodAll enc Try.prog W 0 (fun _ => true) true Try.f3.params.toList args.toList ds p := hA0
  rw [Try.params3] at hA hval
  obtain ⟨v0, vs0, d0, ds0, p0, q0, hargs, rfl, rfl, h0, r0⟩ := trodAll_cons hA
  obtain ⟨v1, vs1, d1, ds1, p1, q1, rfl, rfl, rfl, h1, r1⟩ := trodAll_cons r0
  obtain ⟨v2, vs2, d2, ds2, p2, q2, rfl, rfl, rfl, h2, r2⟩ := trodAll_cons r1
  obtain ⟨rfl, rfl, rfl⟩ := trodAll_nil r2
  obtain rfl : args = #[v0, v1, v2] := by cases args; simp_all
  obtain ⟨rfl, rfl⟩ := trodVars_none hV
  have k0 := h0
  have lt0 : ∀ x ∈ p0, x.block < W.heap.size := by obtain ⟨m, hm⟩ := k0; exact DataW.trod_lt m _ _ _ hm
  have k1 := h1
  have lt1 : ∀ x ∈ p1, x.block < W.heap.size := by obtain ⟨m, hm⟩ := k1; exact DataW.trod_lt m _ _ _ hm
  have k2 := h2
  have lt2 : ∀ x ∈ p2, x.block < W.heap.size := by obtain ⟨m, hm⟩ := k2; exact DataW.trod_lt m _ _ _ hm
  obtain ⟨a0, len0, cap0, rfl⟩ := okWide_slice Try.underlying22 (hval 0 22 v0 rfl rfl)
  have w0 : IsMatI W a0 len0 cap0 := isMatI_of h0
  have w1 : IsAsk W v1 := isAsk_of (hval 1 24 v1 rfl rfl) h1
  have w2 : IsStart W v2 := isStart_of (hval 2 27 v2 rfl rfl) h2
  clear hA0 hval0
  refine (walk a0 len0 cap0 v1 v2 W w0 w1 w2).mono fun e W' ⟨he, bel⟩ => ?_
  subst he
  exact ⟨_, rfl, _, _, _, [], _, [], hW', trodAll_mk1 (shut_bool Try.underlying4 _), (trodAll_cons_mk (Below.trod laidOut (by kernel_rfl) (of_decide_eq_true (by kernel_rfl)) k0 bel lt0) (trodAll_cons_mk (Below.trod laidOut (by kernel_rfl) (of_decide_eq_true (by kernel_rfl)) k1 bel lt1) (trodAll_cons_mk (Below.trod laidOut (by kernel_rfl) (of_decide_eq_true (by kernel_rfl)) k2 bel lt2) trodAll_mk0))), rfl, bel.frame _, fun h => by cases h⟩

theorem over : Rows.planFirstRow.holds Try.pinned (OpenSpec.ofChange Rows.planFirstSpec) :=
  OpenClaim.holds_of_wide 3 Try.f3 rfl rfl rfl rfl rfl rfl rfl ⟨rfl, rfl, rfl, rfl, rfl⟩ rfl rfl rfl rfl rfl (by kernel_rfl) Try.func3 (by kernel_rfl)
    (of_decide_eq_true (by kernel_rfl)) (by unfold Func.isWrapper; first | (rw [if_pos (by decide +kernel)]; kernel_rfl) | (rw [if_neg (by decide +kernel)]; exact ⟨rfl, rfl⟩))
    (fun os started H enc _ => lifted os started H enc)

/-- THE STATEMENT -/
theorem planFirst_holds : Rows.PlanFirstSaid := over
#print axioms planFirst_holds
end Go.Proofs.Ytecojmpiaaehlaa.planFirst
