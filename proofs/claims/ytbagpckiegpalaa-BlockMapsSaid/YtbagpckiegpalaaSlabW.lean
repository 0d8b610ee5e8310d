/-
  Layer 5: Write: contract.
-/
import Derived.Test.YtbagpckiegpalaaSlabR
import Derived.Test.YtbagpckiegpalaaUntil
import Derived.Deep.Cut
import Derived.Laws.CopyOwn
import Derived.Deep.RegionHeld3
import Derived.Deep.Upon
namespace Go.Proofs.Ytbagpckiegpalaa
open Go.RowKit
set_option linter.unusedSimpArgs false

/-- Bytes, and noughts up to a sector. -/
def pad (p : List UInt8) : List UInt8 := p ++ List.replicate (128 - p.length) 0

theorem pad_length (p : List UInt8) (h : p.length ≤ 128) : (pad p).length = 128 := by simp [pad]; omega

/-- The sector i is written. -/
def Sl.put (s : Sl) (i : Nat) (q : List UInt8) : Sl := { s with now := s.now.take (i * 128) ++ (q ++ s.now.drop (i * 128 + 128)), way := s.way ++ [(i, q)] }

theorem Sl.put_ok (s : Sl) (i : Nat) (q : List UInt8) (h : s.ok) (hi : i < s.n) (hq : q.length = 128) (hw : s.way.length < 1000000) : (s.put i q).ok := by
  obtain ⟨o1, o2, o3, o4, o5, o6, o7⟩ := h
  refine ⟨o1, o2, ?_, o4, ?_, ?_, o7⟩
  · simp only [Sl.put, List.length_append, List.length_take, List.length_drop, hq]
    omega
  · intro x hx
    simp only [Sl.put, List.mem_append, List.mem_singleton] at hx
    rcases hx with hx | rfl
    · exact o5 x hx
    · exact ⟨hi, hq⟩
  · simp only [Sl.put, List.length_append, List.length_singleton]
    omega

theorem put_now (s : Sl) (i : Nat) (q : List UInt8) (hq : q.length = 128) : (s.put i q).now.map bv = splice (s.now.map bv) (i * 128) (q.map bv) := by
  simp only [Sl.put, splice, List.map_append, List.map_take, List.map_drop, List.length_map, hq]

set_option maxRecDepth 100000 in
theorem zero_write (v : Value) : Try.zeroCells100.setIfInBounds 0 v = (v :: List.replicate 128 (.int .u8 0)).toArray := by rfl
theorem zero_wsize : Try.zeroCells100.size = 129 := by kernel_rfl
theorem one_write (v : Value) (h : v.oneCell' = true) : (v :: List.replicate 128 (Value.int .u8 0)).toArray.all (·.oneCell') = true := all_oneCell_toArray (fun x hx => by
  rcases List.mem_cons.1 hx with rfl | hx
  · exact h
  · rw [List.eq_of_mem_replicate hx]; rfl)
theorem write_size : (Try.prog.info? 100).map (·.size) = some 129 := by kernel_rfl
theorem byte_size : (Try.prog.info? 5).map (·.size) = some 1 := by kernel_rfl

theorem splice_pad (i : Nat) (p : List UInt8) : splice (Value.int .i64 (i : Int) :: List.replicate 128 (.int .u8 0)) 1 (p.map bv) = wcells (i, pad p) := by
  unfold splice wcells pad
  simp only [List.map_append, List.map_replicate, List.length_map, List.take_succ_cons, List.take_zero, List.cons_append, List.nil_append]
  rw [show 1 + p.length = p.length + 1 by omega, List.drop_succ_cons, List.drop_replicate]
  rfl

theorem src_cells {w : World} {pa : Option Addr} {pl pc : Nat} {p : List UInt8} (h : Rd w (.slice pa pl pc) p) : 0 < (p.map bv).length → ∃ ad, pa = some ad ∧ ∀ j v, (p.map bv)[j]? = some v → w.cell? (ad.add j) = some v := by
  intro hpos
  obtain ⟨a', cap', e', h1, _, hnn, hcs⟩ := h
  cases e'
  cases pa with
  | none =>
    have := hnn rfl
    rw [List.length_map] at hpos
    omega
  | some x =>
    refine ⟨x, rfl, fun j v hv => ?_⟩
    rw [List.getElem?_map] at hv
    rcases Nat.lt_or_ge j p.length with hj | hj
    · rw [List.getElem?_eq_getElem hj] at hv
      rw [hcs x rfl j hj, List.getD_eq_getElem?_getD, List.getElem?_eq_getElem hj]
      simpa using hv
    · rw [List.getElem?_eq_none hj] at hv
      cases hv

theorem size_setCells (g : Nat) : ∀ (cs : List Value) (w : World) (o : Nat), (w.setCells g o cs).heap.size = w.heap.size
  | [], _, _ => rfl
  | v :: vs, w, o => (size_setCells g vs (w.setCell ⟨g, o, none⟩ v) (o + 1)).trans (by simp [World.setCell])

theorem List.take_set_succ_eq {α : Type} (l : List α) (o : Nat) (v : α) (h : o < l.length) : (l.set o v).take (o + 1) = l.take o ++ [v] := by
  rw [List.take_succ_eq_append_getElem (by simpa using h), List.take_set_of_le (Nat.le_refl _)]
  simp

theorem fold_aux : ∀ (l : List Value) (k : Nat) (Z : Array Value), k + l.length = Z.size → ((l.zipIdx k).foldl (fun cs x => cs.setIfInBounds x.2 x.1) Z).toList = Z.toList.take k ++ l
  | [], k, Z, h => by
    simp only [List.zipIdx_nil, List.foldl_nil, List.append_nil]
    rw [List.take_of_length_le]
    simp at h ⊢
    omega
  | v :: vs, k, Z, h => by
    simp only [List.length_cons] at h
    simp only [List.zipIdx_cons, List.foldl_cons]
    rw [fold_aux vs (k + 1) (Z.setIfInBounds k v) (by simp; omega), Array.toList_setIfInBounds, List.take_set_succ_eq _ _ _ (by simp; omega)]
    simp

theorem fold_zip (l : List Value) (Z : Array Value) (h : Z.size = l.length) : l.zipIdx.foldl (fun cs x => cs.setIfInBounds x.2 x.1) Z = l.toArray := by
  apply Array.ext'
  have := fold_aux l 0 Z (by omega)
  simpa using this

theorem keeps_setCells (g : Nat) : ∀ (cs : List Value) (w : World) (o : Nat), Keeps (fun k => k = g) w (w.setCells g o cs)
  | [], w, _ => Keeps.refl _ w
  | v :: vs, w, o => (keeps_set w g o v).trans (keeps_setCells g vs (w.setCell ⟨g, o, none⟩ v) (o + 1))

theorem heap_setCells_row (g : Nat) (t : TypeId) : ∀ (cs : List Value) (w : World) (o : Nat) (cur : List Value), w.heap[g]? = some (.cells cur.toArray t (0, 0)) → o + cs.length ≤ cur.length →
    (w.setCells g o cs).heap[g]? = some (.cells (splice cur o cs).toArray t (0, 0))
  | [], w, o, cur, h, _ => by
    rw [show splice cur o [] = cur by simp [splice]]
    exact h
  | v :: vs, w, o, cur, h, hl => by
    simp only [List.length_cons] at hl
    have h1 := heap_setCell_same w g o cur.toArray t v h
    rw [show cur.toArray.setIfInBounds o v = (cur.set o v).toArray by simp] at h1
    have := heap_setCells_row g t vs (w.setCell ⟨g, o, none⟩ v) (o + 1) (cur.set o v) h1 (by rw [List.length_set]; omega)
    rw [show splice cur o (v :: vs) = splice (cur.set o v) (o + 1) vs by
      unfold splice
      rw [List.length_cons, List.take_set_succ_eq cur o v (by omega), List.drop_set_of_lt (by omega), List.append_assoc, show o + (vs.length + 1) = o + 1 + vs.length by omega]
      rfl]
    exact this

set_option maxRecDepth 100000 in
theorem infoW : (Try.prog.info? 100).map (fun i => (i.zero, i.size, i.bytes)) = some (some (.agg Try.zeroCells100), 129, 136) := by kernel_rfl

theorem wcells_length (x : Nat × List UInt8) (hx : x.2.length = 128) : (wcells x).length = 129 := by simp [wcells, hx]

set_option maxRecDepth 100000 in
theorem run_appw (w : World) (ty : TypeId) (base g : Nat) (v : Value) (l : List (Nat × List UInt8)) (x : Nat × List UInt8) (hown : OwnWay w base v l) (hg : w.heap[g]? = some (.cells (wcells x).toArray 100 (0, 0))) (hx : x.2.length = 128) (hlen : l.length ≤ 1000000) (hbase : base ≤ w.heap.size) :
    ∃ v' w', (Builtin.append_ #[84, 84] ty #[v, .slice (some ⟨g, 0, none⟩) 1 1]).run Try.prog w = .ok v' w' ∧ OwnWay w' base v' (l ++ [x]) ∧ w.grownBy w' v.ownBlock := by
  obtain ⟨i, hi, hz0, hz1, hz2⟩ := info_parts infoW
  obtain ⟨v', w', hr, r1, r2, _⟩ := run_append_own (P := Try.prog) w base 84 ty 100 i (.agg Try.zeroCells100) 129 136 Try.underlying84 hi hz0 hz1 hz2 (by rw [← zero_wsize]; rfl) (by decide) v l.length _ hown ⟨g, 0, none⟩ 1 1 (wcells x) (wcells_length x hx) (fun j y hj => by
      rw [Addr.add_lit, Nat.zero_add, cell_of_row _ _ _ _ _ _ hg]
      simpa using hj) (fun y hy => by
      unfold wcells at hy
      rcases List.mem_cons.1 hy with rfl | hy
      · rfl
      · simp only [List.mem_map] at hy
        obtain ⟨z, _, rfl⟩ := hy
        rfl) (by unfold maxLen; omega) (by omega) hbase
  refine ⟨v', w', hr, ?_, r2⟩
  unfold OwnWay
  rw [List.length_append, List.flatMap_append]
  simpa using r1

theorem step_appw {ops : Array Oper} {o : Oper} {a : Act} {w : World} {K : Act → World → Prop} {Q : Exit → Act → World → Prop} {E : Prop}
    (hg : Region.wanted o (yielded ops a.tmps) = true) (s x : Operand) (hop : o.op = Op.call { callee := Callee.builtin Builtin.append, args := #[s, x], argTypes := #[84, 84] })
    (base g : Nat) (v : Value) (l : List (Nat × List UInt8)) (y : Nat × List UInt8) (hs : a.eval s = v) (hx : a.eval x = .slice (some ⟨g, 0, none⟩) 1 1) (hown : OwnWay w base v l) (hgr : w.heap[g]? = some (.cells (wcells y).toArray 100 (0, 0))) (hy : y.2.length = 128) (hlen : l.length ≤ 1000000) (hbase : base ≤ w.heap.size)
    (hK : ∀ v' w', OwnWay w' base v' (l ++ [y]) → w.grownBy w' v.ownBlock → K (a.put o.dst v') w') :
    if Region.wanted o (yielded ops a.tmps) = true then Oper.wp Try.prog o a w K Q else E := by
  rw [if_pos hg]
  obtain ⟨v', w', hrun, h1, h2⟩ := run_appw w o.type base g v l y hown hgr hy hlen hbase
  unfold Oper.wp
  simp [execOp, hop, resolve, invoke, builtin, hs, hx, hrun, Result.andThen]
  exact hK v' w' h1 h2

set_option maxRecDepth 100000 in
set_option maxHeartbeats 4000000 in
theorem write_any (base b bn bd : Nat) (wv : Value) (s : Sl) (i : Nat) (pa : Option Addr) (pc pl : Nat) (p : List UInt8) (w : World) (h : SlabAt w base b bn bd wv s) (hi : i < s.n) (hst : s.steps ≤ 1000000) (hwy : s.way.length < 1000000) (ho : s.off = false) (hp : Rd w (.slice pa pl pc) p) (hpl : pl = p.length) (hp2 : pl ≤ 128) :
    Calls Try.prog 23 #[.pointer (some ⟨b, 0, none⟩), .int .i64 (i : Int), .slice pa pl pc] w fun e w' => ∃ v', e = .returned (.int .i64 s.stepE) ∧ SlabAt w' base b bn bd v' (s.put i (pad p)).step ∧ Keeps (fun k => k = b ∨ k = bn ∨ wv.ownBlock = some k) w w' := by
  have HI := hid (show s.has (i : Int) = true by simp [Sl.has]; omega)
  have HT := hid (there_any base b bn bd wv s (i : Int) w h)
  obtain ⟨c0, c1, c2, c3, c4, c5, hf⟩ := h.cells
  rw [ho] at c3
  have d1 : ¬ 128 < (pl : Int) := by omega
  clear hf
  have H := hid h
  have HP := hid hp
  have HPL := hid hpl
  have hn := h.2.2.2.2.2.2.2.2.2.2.2.2.1
  clear h hp ho hpl
  have HZ := hid (heap_alloc_new w (.cells Try.zeroCells100 100))
  obtain ⟨ZA, hZA⟩ : ∃ ZA, ZA = Try.zeroCells100.setIfInBounds 0 (Value.int .i64 (i : Int)) := ⟨_, rfl⟩
  obtain ⟨CU, hCU⟩ : ∃ CU, CU = Value.int .i64 (i : Int) :: List.replicate 128 (Value.int .u8 0) := ⟨_, rfl⟩
  have hZC : ZA = CU.toArray := by rw [hZA, hCU]; exact zero_write _
  have HZ1 := hid (show (Try.prog.info? 100).map (·.size) = some ZA.size by rw [write_size, hZC, hCU]; simp)
  have HZ2 := hid (show Try.zeroCells100.size = ZA.size by rw [zero_wsize, hZC, hCU]; simp)
  have HZ3 := hid (show ZA.all (·.oneCell') = true by rw [hZC, hCU]; exact one_write _ rfl)
  have HSP := hid (show splice CU 1 (p.map bv) = wcells (i, pad p) by rw [hCU]; exact splice_pad i p)
  have HCL := hid (show CU.length = 129 by rw [hCU]; simp)
  obtain ⟨w1, hw1⟩ : ∃ w1, w1 = (w.alloc (.cells Try.zeroCells100 100)).setRow w.heap.size ZA := ⟨_, rfl⟩
  have HG1 := hid (show w1.heap[w.heap.size]? = some (.cells CU.toArray 100 (0, 0)) by rw [hw1, ← hZC]; exact setRow_heap (w.alloc _) w.heap.size _ _ _ _ HZ.out)
  have hB1 : Below w.heap.size w w1 := by rw [hw1]; exact ((Below.refl _ _).alloc (Nat.le_refl _) _).trans ⟨rfl, rfl, rfl, by simp, fun k hk => setRow_other _ _ k _ (by omega)⟩
  have HB1 := hid hB1
  have HW1 := hid hw1
  have HZA := hid hZA
  have HK1 := hid (show (p.map bv).length = Nat.min pl 128 by rw [List.length_map, ← HPL.out]; exact (Nat.min_eq_left hp2).symm)
  have HK2 := hid (src_cells (HP.out.below hB1))
  have HK3 := hid (show 1 + (p.map bv).length ≤ CU.length by rw [HCL.out, List.length_map, ← HPL.out]; omega)
  have HK4 := hid (show ∀ v ∈ p.map bv, v.oneCell' = true from fun v hv => by simp only [List.mem_map] at hv; obtain ⟨x, _, rfl⟩ := hv; rfl)
  clear hB1 hw1 hZA hCU hZC
  go_enter Try.func23, Try.ntmps23
  go_wp2_with fail
  refine HT.out.mono ?_
  rintro e w' ⟨rfl, rfl⟩
  rw [HI.out]
  go_upto_region 10 with (first | (refine wpList_store_row rfl 100 (.tmp 7) (.tmp 26) rfl w.heap.size ZA rfl (congrArg Value.agg HZA.out.symm) 100 Try.zeroCells100 HZ.out HZ1.out HZ2.out HZ3.out ?_) | fail)
  rw [← HZA.out, ← HW1.out]
  go_upto_region 11 with (first | (refine wpList_copy_splice rfl (.tmp 28) (.tmp 29) 32 32 rfl 5 Try.underlying32 byte_size (some ⟨w.heap.size, 1, none⟩) pa 128 128 pl pc rfl rfl w.heap.size 1 CU 100 HG1.out (p.map bv) HK1.out (fun hps => ⟨rfl, HK2.out hps⟩) HK3.out HK4.out w.heap.size w HB1.out (Nat.le_refl _) ?_; intro w2 HG2 hB2; have HB2 := hid hB2; clear hB2) | fail)
  have HG3 := hid (show w2.heap[w.heap.size]? = some (.cells (wcells (i, pad p)).toArray 100 (0, 0)) by rw [← HSP.out]; exact HG2.out)
  have hlt : b < w.heap.size ∧ bn < w.heap.size := ⟨(Array.getElem?_eq_some_iff.1 H.out.1).1, (Array.getElem?_eq_some_iff.1 H.out.2.1).1⟩
  have e0 : w2.cell? ⟨b, 0, none⟩ = some (.slice (some ⟨bn, 0, none⟩) s.n s.n) := by rw [HB2.out.cell (p := ⟨b, 0, none⟩) hlt.1]; exact c0
  obtain ⟨cs, hcs⟩ : ∃ cs, cs = (pad p).map bv := ⟨_, rfl⟩
  have hcl : cs.length = 128 := by rw [hcs, List.length_map]; exact pad_length p (by have := HPL.out; omega)
  have hsz : (Try.prog.info? 98).map (·.size) = some cs.length := by rw [sector_size, hcl]
  have hone : ∀ v ∈ cs, v.oneCell' = true := by rw [hcs]; intro v hv; simp only [List.mem_map] at hv; obtain ⟨x, _, rfl⟩ := hv; rfl
  have er : w2.rangeAt w.heap.size 1 cs := by
    intro j v hv
    rw [cell_of_row _ _ _ _ _ _ HG3.out]
    unfold wcells
    rw [← hcs, show 1 + j = j + 1 by omega]
    simpa using hv
  have HN := hid (show w2.heap[bn]? = some (.cells (s.now.map bv).toArray 98 (0, 0)) from (HB2.out.block bn hlt.2).trans H.out.2.1)
  have eth : w2.there bn (i * 128) cs.length := by
    intro j hj
    rw [hcl] at hj
    refine ⟨?_, frozen_of_row _ _ _ _ _ HN.out⟩
    rw [cell_of_row _ _ _ _ _ _ HN.out]
    have hl := H.out.2.2.2.2.2.2.2.2.2.2.2.2.2.1
    rw [Array.getElem?_eq_getElem (by simp; omega)]
    rfl
  obtain ⟨d, hd1, hd2⟩ := sector_desc
  have hun := Try.underlying98
  have hb1 : (0 : Int) ≤ (i : Int) := by omega
  have hb2 : (i : Int) < (s.n : Int) := by omega
  have hbn : ¬ b = bn := H.out.2.2.2.2.2.2.2.1
  clear hd1 hd2 c0 c1 c2 c3 c4 c5
  go_region_held3 (fun w' => w'.cell? ⟨b, 0, none⟩ = some (.slice (some ⟨bn, 0, none⟩) s.n s.n) ∧ w'.rangeAt w.heap.size 1 cs ∧ w'.there bn (i * 128) cs.length)
    ((refine ⟨?_, ?_, ?_⟩ <;> first | assumption | exact (World.cell?_setCells_out bn _ _ _ ⟨b, 0, none⟩ (fun e _ => absurd e hbn)).trans (by assumption) | (apply World.there_setCells; assumption) | (refine World.rangeAt_setCells_apart (by assumption) _ _ _ (by omega)) | fail))
    (fail)
  obtain ⟨w3, hw3⟩ : ∃ w3, w3 = w2.drew.setCells bn (i * 128) cs := ⟨_, rfl⟩
  rw [← hw3]
  have hnl : (s.now.map bv).length = s.n * 128 := by rw [List.length_map]; exact H.out.2.2.2.2.2.2.2.2.2.2.2.2.2.1
  have HN3 := hid (show w3.heap[bn]? = some (.cells (splice (s.now.map bv) (i * 128) cs).toArray 98 (0, 0)) by rw [hw3]; exact heap_setCells_row bn _ cs w2.drew (i * 128) _ HN.out (by rw [hnl, hcl]; omega))
  have hoth : ∀ k, k < w2.heap.size → k ≠ bn → w3.heap[k]? = w2.heap[k]? := fun k hk hne => by rw [hw3]; exact World.heap_setCells_other w2.drew bn (i * 128) cs hk hne
  have HKP3 := hid (show Keeps (fun k => k = b ∨ k = bn ∨ wv.ownBlock = some k) w w3 by
    rw [hw3]
    exact ((Keeps.of_below HB2.out (fun i h1 h2 => by omega)).drew).trans' (keeps_setCells bn cs w2.drew (i * 128)) (fun k _ e => .inr (.inl e)))
  have hs2 := HB2.out.size
  have hg2 : w.heap.size < w2.heap.size := (Array.getElem?_eq_some_iff.1 HG3.out).1
  have HG4 := hid (show w3.heap[w.heap.size]? = some (.cells (wcells (i, pad p)).toArray 100 (0, 0)) from (hoth _ hg2 (by omega)).trans HG3.out)
  have HO3 := hid hoth
  have HH3 := hid (show w3.heap[b]? = _ from (hoth b (by omega) hbn).trans ((HB2.out.block b hlt.1).trans H.out.1))
  have e2 : w3.cell? ⟨b, 2, none⟩ = some wv := (cell_of_row _ _ _ _ _ _ HH3.out).trans rfl
  have hfb : ∀ j, w3.frozen? ⟨b, j, none⟩ = false := fun j => frozen_of_row _ _ _ _ _ HH3.out
  have hf2 := hfb 2
  have hs3 : w3.heap.size = w2.heap.size := by rw [hw3, size_setCells]; rfl
  obtain ⟨WC, hWC⟩ : ∃ WC, WC = wcells (i, pad p) := ⟨_, rfl⟩
  have hr3 : w3.rangeAt w.heap.size 0 WC := by
    intro j v hv
    rw [cell_of_row _ _ _ _ _ _ HG4.out, ← hWC, Nat.zero_add]
    simpa using hv
  have hwl : WC.length = 129 := by rw [hWC]; exact wcells_length _ (pad_length p (by have := HPL.out; omega))
  have hwsz : (Try.prog.info? 100).map (·.size) = some WC.length := by rw [write_size, hwl]
  have HWC := hid hWC
  have HCS := hid hcs
  clear hw3 hoth hfb hWC hcs er eth e0 hsz hone hun hcl hnl
  go_wp2_with fail
  refine wp_region_noPanic ?_
  have HU : UntilAll [(10, (fun w' => w'.cell? ⟨b, 2, none⟩ = some wv)), (10, (fun w' => w'.rangeAt w.heap.size 0 WC))] (Array.replicate 11 false) w3.drew := by
    intro c hc _
    simp only [List.mem_cons, List.not_mem_nil, or_false] at hc
    rcases hc with rfl | rfl
    · exact e2
    · exact hr3
  refine Orders.begins (C := [(10, (fun w' => w'.cell? ⟨b, 2, none⟩ = some wv)), (10, (fun w' => w'.rangeAt w.heap.size 0 WC))]) (by kernel_rfl) ?_
  refine Orders.take (fun _ => True) [] (i := 0) (v := ?_) rfl (by kernel_rfl) (by kernel_rfl) (by kernel_rfl) (fun _ _ _ h => h) (by kernel_rfl) (fun _ _ _ _ => trivial) (by kernel_rfl) (by kernel_rfl) (Or.inl ⟨by rfl, ?_⟩) (by assumption) (fun HU => ?_)
  rotate_left
  · intro u hSw
    try dsimp only at hSw
    go_simp
    try (with_reducible rfl)
  try simp only [Act.put, List.setIfInBounds_toArray, List.set_cons_zero, List.set_cons_succ]
  refine Orders.take (fun _ => True) [] (i := 1) (v := ?_) rfl (by kernel_rfl) (by kernel_rfl) (by kernel_rfl) (fun _ _ _ h => h) (by kernel_rfl) (fun _ _ _ _ => trivial) (by kernel_rfl) (by kernel_rfl) (Or.inl ⟨by rfl, ?_⟩) (by assumption) (fun HU => ?_)
  rotate_left
  · intro u hSw
    try dsimp only at hSw
    go_simp
    try (with_reducible rfl)
  try simp only [Act.put, List.setIfInBounds_toArray, List.set_cons_zero, List.set_cons_succ]
  refine Orders.take (fun _ => True) [] (i := 2) (v := ?_) rfl (by kernel_rfl) (by kernel_rfl) (by kernel_rfl) (fun _ _ _ h => h) (by kernel_rfl) (fun _ _ _ _ => trivial) (by kernel_rfl) (by kernel_rfl) (Or.inl ⟨by rfl, ?_⟩) (by assumption) (fun HU => ?_)
  rotate_left
  · intro u hSw
    try dsimp only at hSw
    go_simp
    try (with_reducible rfl)
  try simp only [Act.put, List.setIfInBounds_toArray, List.set_cons_zero, List.set_cons_succ]
  refine Orders.take (fun _ => True) [] (i := 3) (v := ?_) rfl (by kernel_rfl) (by kernel_rfl) (by kernel_rfl) (fun _ _ _ h => h) (by kernel_rfl) (fun _ _ _ _ => trivial) (by kernel_rfl) (by kernel_rfl) (Or.inl ⟨by rfl, ?_⟩) (by assumption) (fun HU => ?_)
  rotate_left
  · intro u hSw
    try dsimp only at hSw
    go_simp
    try (with_reducible rfl)
  try simp only [Act.put, List.setIfInBounds_toArray, List.set_cons_zero, List.set_cons_succ]
  refine Orders.take (fun w' => w'.cell? ⟨b, 2, none⟩ = some wv) [10] (i := 4) (v := ?_) rfl (by kernel_rfl) (by kernel_rfl) (by kernel_rfl) (fun _ _ _ h => h) (by kernel_rfl) (fun L u hd h => h (10, (fun w' => w'.cell? ⟨b, 2, none⟩ = some wv)) (by simp) (hd 10 (by simp))) (by kernel_rfl) (by kernel_rfl) (Or.inl ⟨by rfl, ?_⟩) (by assumption) (fun HU => ?_)
  rotate_left
  · intro u hSw
    try dsimp only at hSw
    go_simp
    try (with_reducible rfl)
  try simp only [Act.put, List.setIfInBounds_toArray, List.set_cons_zero, List.set_cons_succ]
  refine Orders.take (fun w' => w'.rangeAt w.heap.size 0 WC) [10] (i := 5) (v := .agg WC.toArray) rfl (by kernel_rfl) (by kernel_rfl) (by kernel_rfl) (fun _ _ _ h => h) (by kernel_rfl) (fun L u hd h => h (10, (fun w' => w'.rangeAt w.heap.size 0 WC)) (by simp) (hd 10 (by simp))) (by kernel_rfl) (by kernel_rfl) (yieldsIf_load_mid (by rfl) 100 (.tmp 7) rfl w.heap.size 0 rfl WC _ (fun u hu => hu) Try.underlying100 rfl hwsz) (by assumption) (fun HU => ?_)
  try simp only [Act.put, List.setIfInBounds_toArray, List.set_cons_zero, List.set_cons_succ]
  refine Orders.one (i := 6) (by kernel_rfl) rfl (fun K hK => ?_)
  go_simp
  rw [fold_zip WC _ (by rw [hwl]; rfl)]
  refine hK.out _ _ ?_ (fun HU => ?_)
  · intro c hc _
    simp only [List.mem_cons, List.not_mem_nil, or_false] at hc
    rcases hc with rfl | rfl
    · exact ((Below.refl w3.heap.size w3).alloc (Nat.le_refl _) _).cell (p := ⟨b, 2, none⟩) (show b < w3.heap.size by omega) |>.trans e2
    · exact World.rangeAt_alloc (w := w3) hr3 _
  clear hK K
  try simp only [Act.put, List.setIfInBounds_toArray, List.set_cons_zero, List.set_cons_succ]
  have hwl2 : s.way.length ≤ 1000000 := by omega
  have hbb : base ≤ b := H.out.2.2.2.2.1
  have hwo : ∀ k, wv.ownBlock = some k → k ≠ b ∧ k ≠ bn ∧ k ≠ bd ∧ k < w.heap.size := fun k hk => ⟨(H.out.2.2.2.2.2.2.2.2.2.2.1 k hk).1, (H.out.2.2.2.2.2.2.2.2.2.2.1 k hk).2.1, (H.out.2.2.2.2.2.2.2.2.2.2.1 k hk).2.2, (H.out.2.2.2.1.lt k hk).2⟩
  have HWO := hid hwo
  obtain ⟨w4, hw4⟩ : ∃ w4, w4 = (w3.alloc (.cells WC.toArray 100)).drew := ⟨_, rfl⟩
  have HKP4 := hid (show Keeps (fun k => k = b ∨ k = bn ∨ wv.ownBlock = some k) w w4 by rw [hw4]; exact (HKP3.out.alloc _).drew)
  have hsz4 : w4.heap.size = w3.heap.size + 1 := by rw [hw4]; show (w3.alloc _).heap.size = _; simp
  have h34 : ∀ k, k < w3.heap.size → w4.heap[k]? = w3.heap[k]? := fun k hk => by rw [hw4]; exact Below.heap_alloc w3 _ k hk
  have hOW := hid (show OwnWay w4 base wv s.way from H.out.2.2.2.1.to fun k hk => by
    have hh := hwo k hk
    rw [h34 k (by omega), HO3.out k (by omega) hh.2.1]
    exact HB2.out.block k hh.2.2.2)
  have hgr := hid (show w4.heap[w2.heap.size]? = some (.cells (wcells (i, pad p)).toArray 100 (0, 0)) by rw [hw4, ← HWC.out, ← hs3]; exact heap_alloc_new w3 _)
  have hpl := pad_length p (by have := HPL.out; omega)
  have HH4 := hid ((h34 b (by omega)).trans HH3.out)
  have HG5 := hid ((h34 w.heap.size (by omega)).trans HG4.out)
  rw [← hw4]
  clear hw4
  refine Orders.one (i := 7) (by kernel_rfl) rfl (fun K hK => ?_)
  refine step_appw (by rfl) (.tmp 43) (.tmp 45) rfl base w2.heap.size wv s.way (i, pad p) rfl rfl hOW.out hgr.out hpl hwl2 (by omega) ?_
  intro v3 w5 ho5 hg5
  obtain ⟨va, vc, ev, hvl⟩ := ho5.slice
  subst ev
  have HB5b := hid ((hg5.block b (by omega) (fun e => (HWO.out b e.symm).1 rfl)).trans HH4.out)
  have HB5g := hid ((hg5.block w.heap.size (by omega) (fun e => by have := (HWO.out _ e.symm).2.2.2; omega)).trans HG5.out)
  have e5 : w5.cell? ⟨b, 2, none⟩ = some wv := (cell_of_row _ _ _ _ _ _ HB5b.out).trans rfl
  have f5 : w5.frozen? ⟨b, 2, none⟩ = false := frozen_of_row _ _ _ _ _ HB5b.out
  refine hK.out _ _ ?_ (fun HU => ?_)
  · intro c hc _
    simp only [List.mem_cons, List.not_mem_nil, or_false] at hc
    rcases hc with rfl | rfl
    · exact e5
    · intro j v hv
      rw [cell_of_row _ _ _ _ _ _ HB5g.out, ← HWC.out, Nat.zero_add]
      simpa using hv
  clear hK K
  try simp only [Act.put, List.setIfInBounds_toArray, List.set_cons_zero, List.set_cons_succ]
  refine Orders.take (fun _ => True) [] (i := 8) (v := ?_) rfl (by kernel_rfl) (by kernel_rfl) (by kernel_rfl) (fun _ _ _ h => h) (by kernel_rfl) (fun _ _ _ _ => trivial) (by kernel_rfl) (by kernel_rfl) (Or.inl ⟨by rfl, ?_⟩) (by assumption) (fun HU => ?_)
  rotate_left
  · intro u hSw
    try dsimp only at hSw
    go_simp
    try (with_reducible rfl)
  try simp only [Act.put, List.setIfInBounds_toArray, List.set_cons_zero, List.set_cons_succ]
  refine Orders.take (fun _ => True) [] (i := 9) (v := ?_) rfl (by kernel_rfl) (by kernel_rfl) (by kernel_rfl) (fun _ _ _ h => h) (by kernel_rfl) (fun _ _ _ _ => trivial) (by kernel_rfl) (by kernel_rfl) (Or.inl ⟨by rfl, ?_⟩) (by assumption) (fun HU => ?_)
  rotate_left
  · intro u hSw
    try dsimp only at hSw
    go_simp
    try (with_reducible rfl)
  try simp only [Act.put, List.setIfInBounds_toArray, List.set_cons_zero, List.set_cons_succ]
  refine Orders.one (i := 10) (by kernel_rfl) rfl (fun K hK => ?_)
  go_simp
  refine hK.out _ _ ?_ (fun HU => ?_)
  · intro c hc hl
    simp only [List.mem_cons, List.not_mem_nil, or_false] at hc
    rcases hc with rfl | rfl <;> exact absurd hl (fun h => Bool.noConfusion (h.symm.trans (by kernel_rfl : _ = true)))
  clear hK K
  try simp only [Act.put, List.setIfInBounds_toArray, List.set_cons_zero, List.set_cons_succ]
  refine Orders.ends (by kernel_rfl) ?_ _
  refine NoPanic.normal ?_
  go_wp2_with fail
  have hb5 : w5.heap.size ≥ w4.heap.size := hg5.size
  obtain ⟨w6, hw6⟩ : ∃ w6, w6 = w5.setCell ⟨b, 2, none⟩ (.slice va (s.way.length + 1) vc) := ⟨_, rfl⟩
  rw [← hw6]
  have hk56 : Keeps (fun k => k = b) w5 w6 := by rw [hw6]; exact keeps_set _ _ _ _
  have o5 : ∀ k, k < w.heap.size → k ≠ b → k ≠ bn → wv.ownBlock ≠ some k → w6.heap[k]? = w.heap[k]? := by
    intro k hk h1 h2 h3
    rw [hk56.block k (by omega) h1, hg5.block k (by omega) (fun e => h3 e.symm), h34 k (by omega), HO3.out k (by omega) h2]
    exact HB2.out.block k hk
  have hbd := H.out.2.2.2.2.2.2.2.2.1
  have hnd := H.out.2.2.2.2.2.2.2.2.2.1
  have hwd : ∀ k, wv.ownBlock = some k → k ≠ bd := fun k hk => (HWO.out k hk).2.2.1
  have hsl : bd < w.heap.size := (Array.getElem?_eq_some_iff.1 H.out.2.2.1).1
  have n6 : w6.heap[bn]? = some (.cells ((s.put i (pad p)).now.map bv).toArray 98 (0, 0)) := by
    rw [hk56.block bn (by omega) (fun e => hbn e.symm), hg5.block bn (by omega) (fun e => (HWO.out bn e.symm).2.1 rfl), h34 bn (by omega), HN3.out, put_now s i (pad p) hpl, HCS.out]
  have d6 : w6.heap[bd]? = some (.cells (s.done.map bv).toArray 98 (0, 0)) := (o5 bd hsl (fun e => hbd e.symm) (fun e => hnd e.symm) (fun e => hwd bd e rfl)).trans H.out.2.2.1
  have ho6 : OwnWay w6 base (.slice va (s.way.length + 1) vc) (s.way ++ [(i, pad p)]) := by
    have := ho5
    simp only [List.length_append, List.length_singleton] at this
    exact this.to fun k hk => hk56.block k (this.lt k hk).2 (fun e => by
      obtain ⟨cur, hcur⟩ := this.type k hk
      subst e
      rw [HB5b.out] at hcur
      cases hcur)
  have h6 : w6.heap[b]? = some (.cells #[.slice (some ⟨bn, 0, none⟩) s.n s.n, .slice (some ⟨bd, 0, none⟩) s.n s.n, .slice va (s.way.length + 1) vc, .bool s.off, .int .i64 (s.armed : Int), .int .i64 (s.steps : Int)] 86 (0, 0)) := by
    rw [hw6]
    exact (heap_setCell_same _ _ _ _ _ _ HB5b.out).trans (by simp)
  have H6 : SlabAt w6 base b bn bd (.slice va (s.way.length + 1) vc) (s.put i (pad p)) := by
    refine ⟨h6, n6, d6, ho6, H.out.2.2.2.2.1, H.out.2.2.2.2.2.1, H.out.2.2.2.2.2.2.1, hbn, hbd, hnd, fun k hk => ?_, s.put_ok i (pad p) H.out.2.2.2.2.2.2.2.2.2.2.2 hi hpl hwy⟩
    obtain ⟨cur, hcur⟩ := ho6.type k hk
    refine ⟨fun e => ?_, fun e => ?_, fun e => ?_⟩
    · subst e; rw [h6] at hcur; cases hcur
    · subst e; rw [n6] at hcur; cases hcur
    · subst e; rw [d6] at hcur; cases hcur
  have HK6 := hid (show Keeps (fun k => k = b ∨ k = bn ∨ wv.ownBlock = some k) w w6 from (HKP4.out.trans' (Keeps.of_grown hg5) (fun k _ e => .inr (.inr e))).trans' hk56 (fun k _ e => .inl e))
  refine (step_any base b bn bd _ _ w6 H6 hst).mono ?_
  rintro e w7 ⟨rfl, h7, hk7⟩
  go_wp2
  go_ret
  exact ⟨_, rfl, h7, HK6.out.trans' hk7 (fun k _ e => .inl e)⟩
theorem write_nil (i : Int) (p : Value) (w : World) (hp : ∃ a n c, p = .slice a n c) :
    Calls Try.prog 23 #[.pointer none, .int .i64 i, p] w fun e w' => e = .returned (.int .i64 6) ∧ w = w' := by
  obtain ⟨a, n, c, rfl⟩ := hp
  go_enter Try.func23, Try.ntmps23
  go_wp2
  go_ret
  exact ⟨rfl, rfl⟩

theorem write_no (base b bn bd : Nat) (wv : Value) (s : Sl) (i : Int) (pa : Option Addr) (pl pc : Nat) (w : World) (h : SlabAt w base b bn bd wv s) (hi : s.has i = false) :
    Calls Try.prog 23 #[.pointer (some ⟨b, 0, none⟩), .int .i64 i, .slice pa pl pc] w fun e w' => e = .returned (.int .i64 1) ∧ w = w' := by
  have HI := hid hi
  have HT := hid (there_any base b bn bd wv s i w h)
  clear h hi
  go_enter Try.func23, Try.ntmps23
  go_wp2_with fail
  refine HT.out.mono ?_
  rintro e w' ⟨rfl, rfl⟩
  rw [HI.out]
  go_wp2
  go_ret
  exact ⟨rfl, rfl⟩

theorem write_long (base b bn bd : Nat) (wv : Value) (s : Sl) (i : Int) (pa : Option Addr) (pl pc : Nat) (w : World) (h : SlabAt w base b bn bd wv s) (hi : s.has i = true) (hl : 128 < pl) :
    Calls Try.prog 23 #[.pointer (some ⟨b, 0, none⟩), .int .i64 i, .slice pa pl pc] w fun e w' => e = .returned (.int .i64 3) ∧ w = w' := by
  have HI := hid hi
  have HT := hid (there_any base b bn bd wv s i w h)
  have d1 : 128 < (pl : Int) := by omega
  clear h hi
  go_enter Try.func23, Try.ntmps23
  go_wp2_with fail
  refine HT.out.mono ?_
  rintro e w' ⟨rfl, rfl⟩
  rw [HI.out]
  go_wp2
  go_ret
  exact ⟨rfl, rfl⟩

theorem write_off (base b bn bd : Nat) (wv : Value) (s : Sl) (i : Int) (pa : Option Addr) (pl pc : Nat) (w : World) (h : SlabAt w base b bn bd wv s) (hi : s.has i = true) (hl : pl ≤ 128) (ho : s.off = true) :
    Calls Try.prog 23 #[.pointer (some ⟨b, 0, none⟩), .int .i64 i, .slice pa pl pc] w fun e w' => e = .returned (.int .i64 13) ∧ w = w' := by
  have HI := hid hi
  have HT := hid (there_any base b bn bd wv s i w h)
  obtain ⟨c0, c1, c2, c3, c4, c5, hf⟩ := h.cells
  rw [ho] at c3
  have d1 : ¬ 128 < (pl : Int) := by omega
  clear h hi hf ho
  go_enter Try.func23, Try.ntmps23
  go_wp2_with fail
  refine HT.out.mono ?_
  rintro e w' ⟨rfl, rfl⟩
  rw [HI.out]
  go_wp2
  go_ret
  exact ⟨rfl, rfl⟩

end Go.Proofs.Ytbagpckiegpalaa
