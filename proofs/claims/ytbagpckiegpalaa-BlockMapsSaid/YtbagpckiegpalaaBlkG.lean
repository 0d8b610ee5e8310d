/-
  Layer 6: said, Get.
-/
import Derived.Test.YtbagpckiegpalaaBlkP
import Derived.Test.YtbagpckiegpalaaInw
import Derived.Test.YtbagpckiegpalaaClone
import Derived.Test.YtbagpckiegpalaaKeepT
import Derived.Stop.BytesEq
import Derived.Deep.Cut
import Derived.Deep.RegionHeld3
import Derived.BigQuiet
namespace Go.Proofs.Ytbagpckiegpalaa
open Go.RowKit
set_option linter.unusedVariables false
set_option linter.unusedSimpArgs false

def Blk.zero : Blk := ⟨0, 0#32, 0#32, 0#32, []⟩
def blkOf (p : List UInt8) : Blk := ⟨p.getD 0 0, Knot.num (p.drop 2) 4, Knot.num (p.drop 6) 4, Knot.num (p.drop 10) 4, (p.drop 14).take (p.getD 1 0).toNat⟩
/-- What a sector's bytes say. -/
def said (p : List UInt8) : Int × Blk :=
  if p = List.replicate 128 0 then (6, Blk.zero) else if Knot.num (p.drop 124) 4 ≠ Crc.sum (p.take 124) then (5, Blk.zero)
  else if p.getD 0 0 = 0 ∨ 104 < (p.getD 1 0).toNat then (4, Blk.zero) else if (blkOf p).bytes ≠ p then (4, Blk.zero) else (0, blkOf p)

theorem copy_runB {P : Program} {w : World} (dT sT ty : TypeId) (elem : TypeId) (hu : P.underlying dT = some (.slice elem)) (hsz : (P.info? elem).map (·.size) = some 1)
    (sp : Option Addr) (dLen dCap sLen sCap : Nat) (g off : Nat) (cur : List Value) (t : TypeId) (hg : w.heap[g]? = some (.cells cur.toArray t (0, 0))) (cs : List Value) (hn : cs.length = Nat.min sLen dLen)
    (hpos : 0 < cs.length → ∃ ad, sp = some ad ∧ ∀ j v, cs[j]? = some v → w.cell? (ad.add j) = some v)
    (hfit : off + cs.length ≤ cur.length) (h1 : ∀ v ∈ cs, v.oneCell' = true) (h0 : cs.length ≠ 0) :
    ∃ w', (Builtin.copy_ #[dT, sT] ty #[.slice (some ⟨g, off, none⟩) dLen dCap, .slice sp sLen sCap]).run P w = .ok (goInt cs.length) w' ∧ w'.heap[g]? = some (.cells (splice cur off cs).toArray t (0, 0)) ∧ Keeps (fun k => k = g) w w' := by
  obtain ⟨ad, rfl, hsrc⟩ := hpos (by omega)
  refine ⟨_, run_copy_row (P := P) w dT sT ty elem g off dLen dCap ad sLen sCap cur.toArray t cs hu hsz hg hn hsrc (by simpa using hfit) h1, (show _ = _ by simpa [splice] using setRow_heap w g _ _ t _ hg), ⟨rfl, rfl, rfl, by simp, fun k hk hne => setRow_other _ _ k _ hne⟩⟩

theorem setCell_heapS (w : World) (g j : Nat) (cs : Array Value) (t : TypeId) (fr : Nat × Nat) (v : Value) (hg : w.heap[g]? = some (.cells cs t fr)) : (w.setCell ⟨g, j, none⟩ v).heap[g]? = some (.cells (cs.setIfInBounds j v) t fr) := by
  obtain ⟨hlt, hk⟩ := Array.getElem?_eq_some_iff.1 hg
  show (w.heap.modify g _)[g]? = _
  rw [Array.getElem?_eq_getElem (by rw [Array.size_modify]; exact hlt), Array.getElem_modify_self, hk]
  simp

theorem splice_all' {Y cs : List Value} (h : Y.length = cs.length) : splice Y 0 cs = cs := by
  unfold splice
  simp [h]

/-- The world inside said: the answer, the sector. -/
structure SdIn (w wi : World) (p : List UInt8) : Prop where
  ans : wi.heap[w.heap.size]? = some (.cells #[.int .u8 0, .int .u32 0, .int .u32 0, .int .u32 0, .slice none 0 0] 40 (0, 0))
  sec : wi.heap[w.heap.size + 1]? = some (.cells (p.map bv).toArray 91 (0, 0))
  below : Below w.heap.size w wi

theorem results_cellS {fn : Func} {p u : Tmp} {ty : TypeId} (h : fn.results = #[.cell p ty, .tmp u]) (tmps : Array Value) (w : World) (v : Value) (g : Nat) (t : TypeId) (cs : Array Value) (fr : Nat × Nat) (fs : Array Field)
    (hp : tmps.getD p undef = .pointer (some ⟨g, 0, none⟩)) (hv : tmps.getD u undef = v) (hg : w.heap[g]? = some (.cells cs t fr))
    (hu : Try.prog.underlying ty = some (.struct fs)) (hi : (Try.prog.info? ty).map (·.size) = some cs.size) :
    (results fn tmps).run Try.prog w = .ok (.tuple #[.agg cs, v]) w := by
  rw [results_cell_tmp h, hp, hv]
  simp [asAddr, run_loadVar_row w g t ty cs fr (.struct fs) hg hu rfl hi]

theorem sd_start (w : World) (p : List UInt8) (hl : p.length = 128) (w1 : World)
    (e0 : w1 = (w.alloc (.cells #[.int .u8 0, .int .u32 0, .int .u32 0, .int .u32 0, .slice none 0 0] 40)).alloc (.cells Try.zeroCells91 91))
    (ad : Option Addr) (cap : Nat) (h3 : ad = none → cap = 0) (hc : 128 ≤ cap) (h4 : ∀ x, ad = some x → ∀ j, j < p.length → w.cell? (x.add j) = some (bv (p.getD j 0))) :
    ∃ w2, (Builtin.copy_ #[32, 32] 3 #[.slice (some ⟨w.heap.size + 1, 0, none⟩) 128 128, .slice ad 128 cap]).run Try.prog w1 = .ok (goInt 128) w2 ∧ SdIn w w2 p := by
  have hz : Try.zeroCells91 = (List.replicate 128 (bv 0)).toArray := rfl
  have hs1 : w1.heap.size = w.heap.size + 2 := by rw [e0]; show ((w.heap.push _).push _).size = _; simp
  have hg1 : w1.heap[w.heap.size + 1]? = some (.cells (List.replicate 128 (bv 0)).toArray 91 (0, 0)) := by
    rw [e0, hz]
    show ((w.heap.push _).push _)[w.heap.size + 1]? = _
    rw [Array.getElem?_push, if_pos (by rw [Array.size_push])]
  have hg0 : w1.heap[w.heap.size]? = some (.cells #[.int .u8 0, .int .u32 0, .int .u32 0, .int .u32 0, .slice none 0 0] 40 (0, 0)) := by
    rw [e0]
    show ((w.heap.push _).push _)[w.heap.size]? = _
    rw [Array.getElem?_push, if_neg (by rw [Array.size_push]; omega), Array.getElem?_push, if_pos rfl]
  have hb1 : Below w.heap.size w w1 := by rw [e0]; exact ((Below.refl _ _).alloc (Nat.le_refl _) _).alloc (by show _ ≤ (w.heap.push _).size; simp) _
  have hln : (p.map bv).length = 128 := by simp [hl]
  obtain ⟨w2, h5, h6, h7⟩ := copy_runB (P := Try.prog) (w := w1) 32 32 3 5 Try.underlying32 byte_size ad 128 128 128 cap (w.heap.size + 1) 0 (List.replicate 128 (bv 0)) 91 hg1 (p.map bv) (by rw [hln]; rfl)
    (fun _ => by
      have hne : ad ≠ none := fun e => by have := h3 e; omega
      obtain ⟨a', ha'⟩ := Option.ne_none_iff_exists'.1 hne
      refine ⟨a', ha', fun j v hv => ?_⟩
      have hj : j < p.length := by
        have := (List.getElem?_eq_some_iff.1 hv).1
        rwa [List.length_map] at this
      have h0 := h4 a' ha' j hj
      have hlt := World.block_lt_of_cell? _ _ h0
      rw [show w1.cell? (a'.add j) = w.cell? (a'.add j) from World.cell?_of_block (w := w) (hb1.block _ hlt), h0]
      rw [List.getElem?_map, List.getElem?_eq_getElem hj] at hv
      rw [List.getD_eq_getElem?_getD, List.getElem?_eq_getElem hj]
      simpa using hv)
    (by rw [hln, List.length_replicate]; omega) (by intro v hv; obtain ⟨z, _, rfl⟩ := List.mem_map.1 hv; rfl) (by rw [hln]; omega)
  rw [hln] at h5
  refine ⟨w2, h5, (h7.block _ (by omega) (by omega)).trans hg0, ?_, ?_⟩
  · rw [h6, splice_all' (by simp [hl])]
  · exact ((Keeps.of_below (S := fun k => w.heap.size ≤ k) hb1 (fun i _ hi => hi)).trans' h7 (fun i _ e => by omega)).below (Nat.le_refl _) (fun i hi => hi)

theorem SdIn.part {w wi : World} {p : List UInt8} (h : SdIn w wi p) (hl : p.length = 128) (o c n : Nat) (ho : o + n ≤ 128) (hc : n ≤ c) (hm : c ≤ 128) : Rd wi (.slice (some ⟨w.heap.size + 1, o, none⟩) n c) ((p.drop o).take n) := by
  refine ⟨_, c, by rw [List.length_take, List.length_drop, hl, Nat.min_eq_left (by omega)], by rw [List.length_take, List.length_drop, hl, Nat.min_eq_left (by omega)]; exact hc, by unfold maxLen; omega, (fun h => by cases h), fun x hx j hj => ?_⟩
  cases hx
  rw [List.length_take, List.length_drop, hl, Nat.min_eq_left (by omega)] at hj
  rw [Addr.add_lit, cell_of_row _ _ _ _ _ _ h.sec]
  have hlt : o + j < p.length := by omega
  simp [List.getD_eq_getElem?_getD, List.getElem?_take, hj, List.getElem?_drop, List.getElem?_eq_getElem hlt]

theorem SdIn.keep {w wi w' : World} {p : List UInt8} (h : SdIn w wi p) (hb : Below wi.heap.size wi w') : SdIn w w' p :=
  ⟨(hb.block _ (Array.getElem?_eq_some_iff.1 h.ans).1).trans h.ans, (hb.block _ (Array.getElem?_eq_some_iff.1 h.sec).1).trans h.sec, h.below.trans (hb.mono h.below.size)⟩

theorem quiet_firstB {P : Program} {f : FuncId} {args : Array Value} {w : World} {n : Nat} {v : Value} (h : Calls P f args (w.drewN n) fun e w' => e = .returned v ∧ w.drewN n = w') :
    Calls P f args (w.drewN n) fun e w' => e = .returned v ∧ ∃ m, w' = w.drewN m :=
  h.mono fun _ _ h => ⟨h.1, n, h.2.symm⟩

theorem below_behindB {B : Nat} {w w' : World} (h : Below B w w') (n : Nat) : Below B w (w'.drewN n) := ⟨h.os, h.tape, h.output, h.size, h.block⟩

theorem SdIn.drewN {w wi : World} {p : List UInt8} (h : SdIn w wi p) (n : Nat) : SdIn w (wi.drewN n) p := ⟨h.ans, h.sec, below_behindB h.below n⟩

theorem Rd.drewN' {w : World} {v : Value} {l : List UInt8} (h : Rd w v l) (n : Nat) : Rd (w.drewN n) v l := h.below (below_behindB (Below.refl _ w) n)

/-- The answer's cells. -/
theorem SdIn.cells {w wi : World} {p : List UInt8} (h : SdIn w wi p) :
    (wi.cell? ⟨w.heap.size, 0, none⟩ = some (.int .u8 0) ∧ wi.cell? ⟨w.heap.size, 1, none⟩ = some (.int .u32 0) ∧ wi.cell? ⟨w.heap.size, 2, none⟩ = some (.int .u32 0) ∧ wi.cell? ⟨w.heap.size, 3, none⟩ = some (.int .u32 0) ∧ wi.cell? ⟨w.heap.size, 4, none⟩ = some (.slice none 0 0)) ∧
    wi.frozen? ⟨w.heap.size, 0, none⟩ = false ∧ wi.frozen? ⟨w.heap.size, 1, none⟩ = false ∧ wi.frozen? ⟨w.heap.size, 2, none⟩ = false ∧ wi.frozen? ⟨w.heap.size, 3, none⟩ = false ∧ wi.frozen? ⟨w.heap.size, 4, none⟩ = false :=
  ⟨⟨(cell_of_row wi _ _ _ _ _ h.ans).trans rfl, (cell_of_row wi _ _ _ _ _ h.ans).trans rfl, (cell_of_row wi _ _ _ _ _ h.ans).trans rfl, (cell_of_row wi _ _ _ _ _ h.ans).trans rfl, (cell_of_row wi _ _ _ _ _ h.ans).trans rfl⟩,
    frozen_of_row _ _ _ _ _ h.ans, frozen_of_row _ _ _ _ _ h.ans, frozen_of_row _ _ _ _ _ h.ans, frozen_of_row _ _ _ _ _ h.ans, frozen_of_row _ _ _ _ _ h.ans⟩

theorem set5_below {w w' : World} {g n : Nat} {A B C D E : Value} (h : Below n w w') (hg : n ≤ g) : Below n w (((((w'.setCell ⟨g, 0, none⟩ A).setCell ⟨g, 1, none⟩ B).setCell ⟨g, 2, none⟩ C).setCell ⟨g, 3, none⟩ D).setCell ⟨g, 4, none⟩ E) :=
  ((((h.setCell (p := ⟨g, 0, none⟩) hg A).setCell (p := ⟨g, 1, none⟩) hg B).setCell (p := ⟨g, 2, none⟩) hg C).setCell (p := ⟨g, 3, none⟩) hg D).setCell (p := ⟨g, 4, none⟩) hg E

theorem set5_heap {w : World} {g : Nat} {a b c d e A B C D E : Value} {t : TypeId} (h : w.heap[g]? = some (.cells #[a, b, c, d, e] t (0, 0))) : (((((w.setCell ⟨g, 0, none⟩ A).setCell ⟨g, 1, none⟩ B).setCell ⟨g, 2, none⟩ C).setCell ⟨g, 3, none⟩ D).setCell ⟨g, 4, none⟩ E).heap[g]? = some (.cells #[A, B, C, D, E] t (0, 0)) := by
  have h1 := fun (w : World) (k : Nat) (u : Value) (cs : Array Value) (hh : w.heap[g]? = some (.cells cs t (0, 0))) => setCell_heapS w g k cs t (0, 0) u hh
  rw [h1 _ _ _ _ (h1 _ _ _ _ (h1 _ _ _ _ (h1 _ _ _ _ (h1 _ _ _ _ h))))]; simp

theorem SdIn.kindc {w wi : World} {p : List UInt8} {v : Value} (h : SdIn w wi p) (hv : (p.map bv).toArray[0]? = some v) : wi.cell? ⟨w.heap.size + 1, 0, none⟩ = some v := (cell_of_row _ _ _ _ _ _ h.sec).trans hv

theorem wp_ifB {c : Prop} [Decidable c] {A B : Prop} (hc : c) (h : A) : if c then A else B := by rw [if_pos hc]; exact h

theorem slice_hi (W : World) (g hn : Nat) (h14 : 14 ≤ hn) (h128 : hn ≤ 128) : (Instr.sliceAt 91 (.pointer (some ⟨g, 0, none⟩)) (some (.int .i64 14)) (some (.int .i64 (hn : Int))) none).run Try.prog W = .ok (.slice (some ⟨g, 14, none⟩) (hn - 14) 114) W := by
  have ha : Try.prog.arrayLen 91 = 128 := by kernel_rfl
  have hs : (sizeOf (Try.prog.elem 91)).run Try.prog W = .ok 1 W := by kernel_rfl
  rw [run_sliceAt_array_lh W 91 ⟨g, 0, none⟩ (by kernel_rfl) .i64 .i64 14 hn (by omega) (by omega) (by rw [ha]; omega), hs, ha]
  rfl

theorem zero5 {w : World} {g : Nat} {A B C D E : Value} {t : TypeId} (h : w.heap[g]? = some (.cells #[A, B, C, D, E] t (0, 0))) :
    (w.cell? ⟨g, 0, none⟩ = some A ∧ w.cell? ⟨g, 1, none⟩ = some B ∧ w.cell? ⟨g, 2, none⟩ = some C ∧ w.cell? ⟨g, 3, none⟩ = some D ∧ w.cell? ⟨g, 4, none⟩ = some E) ∧
    w.frozen? ⟨g, 0, none⟩ = false ∧ w.frozen? ⟨g, 1, none⟩ = false ∧ w.frozen? ⟨g, 2, none⟩ = false ∧ w.frozen? ⟨g, 3, none⟩ = false ∧ w.frozen? ⟨g, 4, none⟩ = false :=
  ⟨⟨(cell_of_row w _ _ _ _ _ h).trans rfl, (cell_of_row w _ _ _ _ _ h).trans rfl, (cell_of_row w _ _ _ _ _ h).trans rfl, (cell_of_row w _ _ _ _ _ h).trans rfl, (cell_of_row w _ _ _ _ _ h).trans rfl⟩,
    frozen_of_row _ _ _ _ _ h, frozen_of_row _ _ _ _ _ h, frozen_of_row _ _ _ _ _ h, frozen_of_row _ _ _ _ _ h, frozen_of_row _ _ _ _ _ h⟩

theorem set5_other {w : World} {g k : Nat} {A B C D E : Value} (hk : k ≠ g) : (((((w.setCell ⟨g, 0, none⟩ A).setCell ⟨g, 1, none⟩ B).setCell ⟨g, 2, none⟩ C).setCell ⟨g, 3, none⟩ D).setCell ⟨g, 4, none⟩ E).heap[k]? = w.heap[k]? := by
  have h := fun (w : World) (j : Nat) (v : Value) => (show (w.setCell ⟨g, j, none⟩ v).heap[k]? = w.heap[k]? from by
    show (w.heap.modify g _)[k]? = _
    rw [Array.getElem?_modify, if_neg (by omega)])
  rw [h, h, h, h, h]

set_option maxRecDepth 100000 in
set_option maxHeartbeats 8000000 in
theorem said_any (u0 : World) (v : Value) (p : List UInt8) (h : Rd u0 v p) (hl : p.length = 128) :
    Calls Try.prog 40 #[v] u0 fun e w' => ∃ dv, e = .returned (.tuple #[(said p).2.val dv, .int .i64 (said p).1]) ∧ Own w' u0.heap.size dv (said p).2.data ∧ Below u0.heap.size u0 w' := by
  have HR := hid h
  obtain ⟨ad, cap, rfl, h1, h2, h3, h4⟩ := h
  rw [hl] at h1
  obtain ⟨w1, hw1⟩ : ∃ w1, w1 = (u0.alloc (.cells #[.int .u8 0, .int .u32 0, .int .u32 0, .int .u32 0, .slice none 0 0] 40)).alloc (.cells Try.zeroCells91 91) := ⟨_, rfl⟩
  obtain ⟨w2, hrun, hsd⟩ := sd_start u0 p hl w1 hw1 ad cap h3 h1 h4
  have H2 := hid hsd
  have HL := hid hl
  rw [hl]
  clear h3 h4 hsd hl
  go_enter Try.func40, Try.ntmps40
  go_upto_region 2 with fail
  rw [← hw1]
  have HW1 := hid hw1
  clear hw1
  go_upto_region 3 with fail
  obtain ⟨C, hC⟩ : ∃ C, C = (p.map bv).toArray := ⟨_, rfl⟩
  have HCZ := hid (show C.size = 128 by rw [hC]; simp [HL.out])
  have HSZ := hid (show (Try.prog.info? 91).map (·.size) = some C.size by
    have h0 : (Try.prog.info? 91).map (·.size) = some 128 := by kernel_rfl
    rw [h0, HCZ.out])
  have HSEC := hid (show w2.heap[u0.heap.size + 1]? = some (.cells C 91 (0, 0)) by rw [hC]; exact H2.out.sec)
  have HEQ := hid (fun (w' : World) (q : List UInt8) (hq : q.length = 128) => show (Op.equalIn 10000 91 (.agg (p.map bv).toArray) (.agg (q.map bv).toArray)).run Try.prog w' = .ok (p == q) w' from
    run_equalIn_bytes (P := Try.prog) w' 9998 91 5 128 Try.underlying91 Try.underlying5 (fun u0 => by kernel_rfl) p q HL.out hq)
  have HC := hid hC
  have e3 : ∀ w', (Op.equalIn 10000 91 (.agg C) (.agg Try.zeroCells91)).run Try.prog w' = .ok (p == List.replicate 128 0) w' := fun w' => by
    have h := HEQ.out w' (List.replicate 128 0) (by simp)
    rw [HC.out, show Try.zeroCells91 = ((List.replicate 128 (0 : UInt8)).map bv).toArray from rfl]
    exact h
  have e3w := e3 w2
  clear e3 hC
  have HSTO := hid (fun (Z : Array Value) (hZ : Z.size = 5) => show (Try.prog.info? 40).map (·.size) = some Z.size by
    have h0 : (Try.prog.info? 40).map (·.size) = some 5 := by kernel_rfl
    rw [h0, hZ])
  have hZ0 := HSTO.out #[.int .u8 0, .int .u32 0, .int .u32 0, .int .u32 0, .slice none 0 0] rfl
  by_cases hz : p = List.replicate 128 0
  · have hzb : (p == List.replicate 128 0) = true := by simpa using hz
    rw [hzb] at e3w
    obtain ⟨⟨m0, m1, m2, m3, m4⟩, f0, f1, f2, f3, f4⟩ := H2.out.cells
    go_wp2_with (first
      | (refine wpList_load_row rfl 91 (.tmp 4) rfl (u0.heap.size + 1) rfl 91 C (0, 0) _ HSEC.out Try.underlying91 rfl HSZ.out ?_)
      | fail)
    have HE := hid (show said p = (6, Blk.zero) by unfold said; rw [if_pos hz])
    refine bodyPost_ret (results_cellS rfl _ _ _ u0.heap.size 40 _ (0, 0) _ rfl rfl (set5_heap H2.out.ans) Try.underlying40 hZ0) rfl ?_
    exact ⟨.slice none 0 0, by rw [HE.out]; rfl, by rw [HE.out]; exact Own.nil _ _, set5_below H2.out.below (Nat.le_refl _)⟩
  · have hzb : (p == List.replicate 128 0) = false := by simpa using hz
    rw [hzb] at e3w
    have HZ := hid hz
    have HPT := hid (fun (W : World) (hW : SdIn u0 W p) (o c n : Nat) (ho : o + n ≤ 128) (hc : n ≤ c) (hm : c ≤ 128) => show Rd W (.slice (some ⟨u0.heap.size + 1, o, none⟩) n c) ((p.drop o).take n) from hW.part HL.out o c n ho hc hm)
    have HR1 := hid (show Rd w2 (.slice (some ⟨u0.heap.size + 1, 124, none⟩) 4 4) (p.drop 124) by
      have := HPT.out w2 H2.out 124 4 4 (by omega) (by omega) (by omega)
      rwa [List.take_of_length_le (by simp [HL.out])] at this)
    have HR2 := hid (show Rd w2 (.slice (some ⟨u0.heap.size + 1, 0, none⟩) 124 128) (p.take 124) by
      have := HPT.out w2 H2.out 0 128 124 (by omega) (by omega) (by omega)
      rwa [List.drop_zero] at this)
    have HLD := hid (show 4 ≤ (p.drop 124).length by simp [HL.out])
    have HW1 := hid (fun n => word_any _ _ (w2.drewN n) (HR1.out.drewN' n) HLD.out)
    have HW2 := hid (fun n => sum_any _ _ (w2.drewN n) (HR2.out.drewN' n))
    obtain ⟨s1, hs1⟩ : ∃ s, s = (Knot.num (p.drop 124) 4).toNat := ⟨_, rfl⟩
    obtain ⟨s2, hs2⟩ : ∃ s, s = (Crc.sum (p.take 124)).toNat := ⟨_, rfl⟩
    rw [← hs1] at HW1
    rw [← hs2] at HW2
    have HS1 := hid hs1
    have HS2 := hid hs2
    clear hz hs1 hs2
    go_upto_region 5 with (first
      | (refine wpList_load_row rfl 91 (.tmp 4) rfl (u0.heap.size + 1) rfl 91 C (0, 0) _ HSEC.out Try.underlying91 rfl HSZ.out ?_)
      | fail)
    go_quiet ((first
      | (go_at_call 57; exact quiet_firstB (HW1.out _))
      | (go_at_call 56; exact quiet_firstB (HW2.out _))))
    have H5 := hid (H2.out.drewN nq)
    obtain ⟨w5, hw5⟩ : ∃ w5, w5 = w2.drewN nq := ⟨_, rfl⟩
    rw [← hw5] at H5 ⊢
    clear hw5 hrun e3w hzb
    by_cases hs : s1 = s2
    · have HSE := hid (show ¬ Knot.num (p.drop 124) 4 ≠ Crc.sum (p.take 124) from fun hne => hne (BitVec.eq_of_toNat_eq (HS1.out.symm.trans (hs.trans HS2.out))))
      have hsb : ((s1 : Int) != (s2 : Int)) = false := by simp [hs]
      clear hs
      obtain ⟨kn, hkn⟩ : ∃ k, k = (p.getD 0 0).toNat := ⟨_, rfl⟩
      obtain ⟨sn, hsn⟩ : ∃ k, k = (p.getD 1 0).toNat := ⟨_, rfl⟩
      have c0 : w5.cell? ⟨u0.heap.size + 1, 0, none⟩ = some (.int .u8 (kn : Int)) := by
        rw [cell_of_row _ _ _ _ _ _ H5.out.sec, hkn]
        have := HL.out
        simp [List.getElem?_eq_getElem (show 0 < p.length by omega), bv]
      have c1 : w5.cell? ⟨u0.heap.size + 1, 1, none⟩ = some (.int .u8 (sn : Int)) := by
        rw [cell_of_row _ _ _ _ _ _ H5.out.sec, hsn]
        have := HL.out
        simp [List.getElem?_eq_getElem (show 1 < p.length by omega), bv]
      have HSN := hid hsn
      have HKN := hid hkn
      clear hkn hsn
      by_cases hk : kn = 0
      · have hkb : ((kn : Int) == 0) = true := by simp [hk]
        have HK := hid (show p.getD 0 0 = 0 from UInt8.toNat_inj.1 (HKN.out.symm.trans hk))
        clear hk
        have HE := hid (show said p = (4, Blk.zero) by unfold said; rw [if_neg HZ.out, if_neg HSE.out, if_pos (.inl HK.out)])
        obtain ⟨⟨m0, m1, m2, m3, m4⟩, f0, f1, f2, f3, f4⟩ := H5.out.cells
        go_wp2_with fail
        refine bodyPost_ret (results_cellS rfl _ _ _ u0.heap.size 40 _ (0, 0) _ rfl rfl (set5_heap H5.out.ans) Try.underlying40 hZ0) rfl ?_
        exact ⟨.slice none 0 0, by rw [HE.out]; rfl, by rw [HE.out]; exact Own.nil _ _, set5_below H5.out.below (Nat.le_refl _)⟩
      · have hkb : ((kn : Int) == 0) = false := by simp [hk]
        have HK := hid (show ¬ p.getD 0 0 = 0 from fun e => hk (by rw [HKN.out, e]; rfl))
        clear hk
        by_cases hn : 104 < sn
        · have hnb : decide ((sn : Int) > 104) = true := decide_eq_true (by omega)
          have HN := hid hn
          clear hn
          have HE := hid (show said p = (4, Blk.zero) by unfold said; rw [if_neg HZ.out, if_neg HSE.out, if_pos (.inr (by rw [← HSN.out]; exact HN.out))])
          obtain ⟨⟨m0, m1, m2, m3, m4⟩, f0, f1, f2, f3, f4⟩ := H5.out.cells
          go_wp2_with fail
          refine bodyPost_ret (results_cellS rfl _ _ _ u0.heap.size 40 _ (0, 0) _ rfl rfl (set5_heap H5.out.ans) Try.underlying40 hZ0) rfl ?_
          exact ⟨.slice none 0 0, by rw [HE.out]; rfl, by rw [HE.out]; exact Own.nil _ _, set5_below H5.out.below (Nat.le_refl _)⟩
        · have hnb : decide ((sn : Int) > 104) = false := decide_eq_false (by omega)
          have HN := hid hn
          clear hn
          go_upto_region 10 with fail
          obtain ⟨hn, hhn⟩ : ∃ h, h = 14 + sn := ⟨_, rfl⟩
          have hws : wrap64 (sn : Int) = (sn : Int) := by have := HN.out; unfold wrap64; omega
          have hw14 : wrap64 (14 + (sn : Int)) = (hn : Int) := by have := HN.out; unfold wrap64; omega
          simp only [hws, hw14, hsb]
          clear hws hw14
          obtain ⟨dt, hdt⟩ : ∃ d, d = (p.drop 14).take sn := ⟨_, rfl⟩
          have hdl : dt.length = sn := by rw [hdt, List.length_take, List.length_drop, HL.out]; have := HN.out; omega
          have HDL := hid hdl
          have hs4 : sn ≤ 104 := by have := HN.out; omega
          have HCL := hid (fun W (hW : SdIn u0 W p) => clone_any (.slice (some ⟨u0.heap.size + 1, 14, none⟩) sn 114) dt W (by rw [hdt]; exact HPT.out W hW 14 114 sn (by omega) (by omega) (by omega)) (by rw [HDL.out]; omega))
          obtain ⟨en, hen⟩ : ∃ k, k = (Knot.num (p.drop 2) 4).toNat := ⟨_, rfl⟩
          obtain ⟨xn, hxn⟩ : ∃ k, k = (Knot.num (p.drop 6) 4).toNat := ⟨_, rfl⟩
          obtain ⟨yn, hyn⟩ : ∃ k, k = (Knot.num (p.drop 10) 4).toNat := ⟨_, rfl⟩
          have HWD := hid (fun (o c : Nat) (hoc : o + c = 128) (h4 : 4 ≤ c) W (hW : SdIn u0 W p) => word_any (.slice (some ⟨u0.heap.size + 1, o, none⟩) c c) (p.drop o) W (by
            have := HPT.out W hW o c c (by omega) (by omega) (by omega)
            rwa [List.take_of_length_le (by rw [List.length_drop, HL.out]; omega)] at this) (by rw [List.length_drop, HL.out]; omega))
          have HE1 := hid (HWD.out 2 126 rfl (by omega))
          have HX1 := hid (HWD.out 6 122 rfl (by omega))
          have HY1 := hid (HWD.out 10 118 rfl (by omega))
          rw [← hen] at HE1
          rw [← hxn] at HX1
          rw [← hyn] at HY1
          have HKC := hid (show (p.map bv).toArray[0]? = some (.int .u8 (kn : Int)) by
            rw [HKN.out]
            have := HL.out
            simp [List.getElem?_eq_getElem (show 0 < p.length by omega), bv])
          have HDT := hid hdt
          have HEN := hid hen
          have HXN := hid hxn
          have HYN := hid hyn
          have h14 : (14 : Nat) ≤ hn := by omega
          have h128 : hn ≤ 128 := by omega
          have hsub : hn - 14 = sn := by omega
          have HHN := hid hhn
          have HSL := hid (fun W => show _ = Result.ok (Value.slice (some ⟨u0.heap.size + 1, 14, none⟩) sn 114) W from hsub ▸ slice_hi W (u0.heap.size + 1) hn h14 h128)
          clear hsub h14 h128 hdl hs4 hdt hen hxn hyn hhn c0 c1 hsb hkb hnb
          refine Orders.begins (C := []) (by kernel_rfl) ?_
          refine Orders.inv_at (I := fun L A a w => ∃ (b0 b1 b2 b3 b4 b5 b6 b7 b8 b9 b10 b11 b12 b13 : Bool) (v33 v34 v35 v36 v37 v38 v39 v40 v41 v42 v43 v44 v6 : Value), L = #[b0, b1, b2, b3, b4, b5, b6, b7, b8, b9, b10, b11, b12, b13] ∧ a = (((((((((((((A.put (some 33) v33).put (some 34) v34).put (some 35) v35).put (some 36) v36).put (some 37) v37).put (some 38) v38).put (some 39) v39).put (some 40) v40).put (some 41) v41).put (some 42) v42).put (some 43) v43).put (some 44) v44).put (some 6) v6) ∧ Below w5.heap.size w5 w ∧ (b11 = true → b10 = true) ∧ (b13 = true → b10 = true ∧ b11 = true ∧ b12 = true) ∧ (b0 = true → v33 = .pointer (some ⟨u0.heap.size + 1, 0, none⟩)) ∧ (b1 = true → v34 = .int .u8 (kn : Int)) ∧ (b2 = true → v35 = .slice (some ⟨u0.heap.size + 1, 2, none⟩) 126 126) ∧ (b3 = true → v36 = .int .u32 (en : Int)) ∧ (b4 = true → v37 = .slice (some ⟨u0.heap.size + 1, 6, none⟩) 122 122) ∧ (b5 = true → v38 = .int .u32 (xn : Int)) ∧ (b6 = true → v39 = .slice (some ⟨u0.heap.size + 1, 10, none⟩) 118 118) ∧ (b7 = true → v40 = .int .u32 (yn : Int)) ∧ (b8 = true → v41 = .int .i64 (hn : Int)) ∧ (b9 = true → v42 = .slice (some ⟨u0.heap.size + 1, 14, none⟩) sn 114) ∧ (b10 = true → (∃ ua uc, v43 = .slice ua sn uc ∧ Own w w5.heap.size v43 dt)) ∧ (b11 = true → v44 = .agg #[.int .u8 (kn : Int), .int .u32 (en : Int), .int .u32 (xn : Int), .int .u32 (yn : Int), v43]) ∧ (b12 = true → (∃ (g : Nat) (z : Array Value), v6 = .pointer (some ⟨g, 0, none⟩) ∧ w5.heap.size ≤ g ∧ w.heap[g]? = some (.cells z 40 (0, 0)) ∧ (b13 = false → z = #[.int .u8 0, .int .u32 0, .int .u32 0, .int .u32 0, .slice none 0 0]) ∧ (b13 = true → v44 = .agg z)))) ?start ?step ?fin (by kernel_rfl)
          case start => exact ⟨false, false, false, false, false, false, false, false, false, false, false, false, false, false, undef, undef, undef, undef, undef, undef, undef, undef, undef, undef, undef, undef, undef, rfl, by simp only [Act.put, List.getElem_toArray, List.getElem_cons_succ, List.getElem_cons_zero, List.setIfInBounds_toArray, List.set_cons_zero, List.set_cons_succ], ((Below.refl _ _).drew), (fun h => Bool.noConfusion h), (fun h => Bool.noConfusion h), (fun h => Bool.noConfusion h), (fun h => Bool.noConfusion h), (fun h => Bool.noConfusion h), (fun h => Bool.noConfusion h), (fun h => Bool.noConfusion h), (fun h => Bool.noConfusion h), (fun h => Bool.noConfusion h), (fun h => Bool.noConfusion h), (fun h => Bool.noConfusion h), (fun h => Bool.noConfusion h), (fun h => Bool.noConfusion h), (fun h => Bool.noConfusion h), (fun h => Bool.noConfusion h)⟩
          case step =>
            rintro L a w' i ⟨b0, b1, b2, b3, b4, b5, b6, b7, b8, b9, b10, b11, b12, b13, v33, v34, v35, v36, v37, v38, v39, v40, v41, v42, v43, v44, v6, rfl, rfl, HW, D11, D13, C0, C1, C2, C3, C4, C5, C6, C7, C8, C9, C10, C11, C12⟩ hi
            obtain ⟨hlt, hu, hn⟩ := ready_has [[], [0], [], [2], [], [3, 4], [], [5, 6], [], [8], [7, 9], [1, 3, 5, 7, 10], [], [10, 11, 12]] (by kernel_rfl) (by kernel_rfl) hi
            clear hi
            have hc : i = 0 ∨ i = 1 ∨ i = 2 ∨ i = 3 ∨ i = 4 ∨ i = 5 ∨ i = 6 ∨ i = 7 ∨ i = 8 ∨ i = 9 ∨ i = 10 ∨ i = 11 ∨ i = 12 ∨ i = 13 := (show ∀ i, i < 14 → (i = 0 ∨ i = 1 ∨ i = 2 ∨ i = 3 ∨ i = 4 ∨ i = 5 ∨ i = 6 ∨ i = 7 ∨ i = 8 ∨ i = 9 ∨ i = 10 ∨ i = 11 ∨ i = 12 ∨ i = 13) by decide) i hlt
            clear hlt
            rcases hc with rfl | rfl | rfl | rfl | rfl | rfl | rfl | rfl | rfl | rfl | rfl | rfl | rfl | rfl
            · obtain rfl : b0 = false := hu
              clear hn
              refine wpOp_shut rfl (fun K' hK => ?_)
              simp only [Act.put, List.getElem_toArray, List.getElem_cons_succ, List.getElem_cons_zero, List.setIfInBounds_toArray, List.set_cons_zero, List.set_cons_succ]
              go_simp
              refine hK.out _ _ ⟨true, b1, b2, b3, b4, b5, b6, b7, b8, b9, b10, b11, b12, b13, (.pointer (some ⟨u0.heap.size + 1, 0, none⟩)), v34, v35, v36, v37, v38, v39, v40, v41, v42, v43, v44, v6, rfl, by simp only [Act.put, List.getElem_toArray, List.getElem_cons_succ, List.getElem_cons_zero, List.setIfInBounds_toArray, List.set_cons_zero, List.set_cons_succ], HW, D11, D13, (fun _ => rfl), C1, C2, C3, C4, C5, C6, C7, C8, C9, C10, C11, C12⟩
            · obtain rfl : b1 = false := hu
              obtain rfl : b0 = true := hn 0 (by decide)
              clear hn
              refine wpOp_shut rfl (fun K' hK => ?_)
              simp only [Act.put, List.getElem_toArray, List.getElem_cons_succ, List.getElem_cons_zero, List.setIfInBounds_toArray, List.set_cons_zero, List.set_cons_succ]
              have hC0 := (C0 rfl).symm
              subst hC0
              have e0 : w'.cell? ⟨u0.heap.size + 1, 0, none⟩ = some (.int .u8 (kn : Int)) := (H5.out.keep HW).kindc HKC.out
              go_simp
              refine hK.out _ _ ⟨true, true, b2, b3, b4, b5, b6, b7, b8, b9, b10, b11, b12, b13, (.pointer (some ⟨u0.heap.size + 1, 0, none⟩)), (.int .u8 (kn : Int)), v35, v36, v37, v38, v39, v40, v41, v42, v43, v44, v6, rfl, by simp only [Act.put, List.getElem_toArray, List.getElem_cons_succ, List.getElem_cons_zero, List.setIfInBounds_toArray, List.set_cons_zero, List.set_cons_succ], HW, D11, D13, C0, (fun _ => rfl), C2, C3, C4, C5, C6, C7, C8, C9, C10, C11, C12⟩
            · obtain rfl : b2 = false := hu
              clear hn
              refine wpOp_shut rfl (fun K' hK => ?_)
              simp only [Act.put, List.getElem_toArray, List.getElem_cons_succ, List.getElem_cons_zero, List.setIfInBounds_toArray, List.set_cons_zero, List.set_cons_succ]
              go_simp
              refine hK.out _ _ ⟨b0, b1, true, b3, b4, b5, b6, b7, b8, b9, b10, b11, b12, b13, v33, v34, (.slice (some ⟨u0.heap.size + 1, 2, none⟩) 126 126), v36, v37, v38, v39, v40, v41, v42, v43, v44, v6, rfl, by simp only [Act.put, List.getElem_toArray, List.getElem_cons_succ, List.getElem_cons_zero, List.setIfInBounds_toArray, List.set_cons_zero, List.set_cons_succ], HW, D11, D13, C0, C1, (fun _ => rfl), C3, C4, C5, C6, C7, C8, C9, C10, C11, C12⟩
            · obtain rfl : b3 = false := hu
              obtain rfl : b2 = true := hn 2 (by decide)
              clear hn
              refine wpOp_shut rfl (fun K' hK => ?_)
              simp only [Act.put, List.getElem_toArray, List.getElem_cons_succ, List.getElem_cons_zero, List.setIfInBounds_toArray, List.set_cons_zero, List.set_cons_succ]
              have hC2 := (C2 rfl).symm
              subst hC2
              go_simp
              refine (HE1.out w' (H5.out.keep HW)).mono ?_
              rintro e w2 ⟨rfl, rfl⟩
              refine hK.out _ _ ⟨b0, b1, true, true, b4, b5, b6, b7, b8, b9, b10, b11, b12, b13, v33, v34, (.slice (some ⟨u0.heap.size + 1, 2, none⟩) 126 126), (.int .u32 (en : Int)), v37, v38, v39, v40, v41, v42, v43, v44, v6, rfl, by simp only [Act.put, List.getElem_toArray, List.getElem_cons_succ, List.getElem_cons_zero, List.setIfInBounds_toArray, List.set_cons_zero, List.set_cons_succ], HW, D11, D13, C0, C1, C2, (fun _ => rfl), C4, C5, C6, C7, C8, C9, C10, C11, C12⟩
            · obtain rfl : b4 = false := hu
              clear hn
              refine wpOp_shut rfl (fun K' hK => ?_)
              simp only [Act.put, List.getElem_toArray, List.getElem_cons_succ, List.getElem_cons_zero, List.setIfInBounds_toArray, List.set_cons_zero, List.set_cons_succ]
              go_simp
              refine hK.out _ _ ⟨b0, b1, b2, b3, true, b5, b6, b7, b8, b9, b10, b11, b12, b13, v33, v34, v35, v36, (.slice (some ⟨u0.heap.size + 1, 6, none⟩) 122 122), v38, v39, v40, v41, v42, v43, v44, v6, rfl, by simp only [Act.put, List.getElem_toArray, List.getElem_cons_succ, List.getElem_cons_zero, List.setIfInBounds_toArray, List.set_cons_zero, List.set_cons_succ], HW, D11, D13, C0, C1, C2, C3, (fun _ => rfl), C5, C6, C7, C8, C9, C10, C11, C12⟩
            · obtain rfl : b5 = false := hu
              obtain rfl : b3 = true := hn 3 (by decide)
              obtain rfl : b4 = true := hn 4 (by decide)
              clear hn
              refine wpOp_shut rfl (fun K' hK => ?_)
              simp only [Act.put, List.getElem_toArray, List.getElem_cons_succ, List.getElem_cons_zero, List.setIfInBounds_toArray, List.set_cons_zero, List.set_cons_succ]
              have hC3 := (C3 rfl).symm
              subst hC3
              have hC4 := (C4 rfl).symm
              subst hC4
              go_simp
              refine (HX1.out w' (H5.out.keep HW)).mono ?_
              rintro e w2 ⟨rfl, rfl⟩
              refine hK.out _ _ ⟨b0, b1, b2, true, true, true, b6, b7, b8, b9, b10, b11, b12, b13, v33, v34, v35, (.int .u32 (en : Int)), (.slice (some ⟨u0.heap.size + 1, 6, none⟩) 122 122), (.int .u32 (xn : Int)), v39, v40, v41, v42, v43, v44, v6, rfl, by simp only [Act.put, List.getElem_toArray, List.getElem_cons_succ, List.getElem_cons_zero, List.setIfInBounds_toArray, List.set_cons_zero, List.set_cons_succ], HW, D11, D13, C0, C1, C2, C3, C4, (fun _ => rfl), C6, C7, C8, C9, C10, C11, C12⟩
            · obtain rfl : b6 = false := hu
              clear hn
              refine wpOp_shut rfl (fun K' hK => ?_)
              simp only [Act.put, List.getElem_toArray, List.getElem_cons_succ, List.getElem_cons_zero, List.setIfInBounds_toArray, List.set_cons_zero, List.set_cons_succ]
              go_simp
              refine hK.out _ _ ⟨b0, b1, b2, b3, b4, b5, true, b7, b8, b9, b10, b11, b12, b13, v33, v34, v35, v36, v37, v38, (.slice (some ⟨u0.heap.size + 1, 10, none⟩) 118 118), v40, v41, v42, v43, v44, v6, rfl, by simp only [Act.put, List.getElem_toArray, List.getElem_cons_succ, List.getElem_cons_zero, List.setIfInBounds_toArray, List.set_cons_zero, List.set_cons_succ], HW, D11, D13, C0, C1, C2, C3, C4, C5, (fun _ => rfl), C7, C8, C9, C10, C11, C12⟩
            · obtain rfl : b7 = false := hu
              obtain rfl : b5 = true := hn 5 (by decide)
              obtain rfl : b6 = true := hn 6 (by decide)
              clear hn
              refine wpOp_shut rfl (fun K' hK => ?_)
              simp only [Act.put, List.getElem_toArray, List.getElem_cons_succ, List.getElem_cons_zero, List.setIfInBounds_toArray, List.set_cons_zero, List.set_cons_succ]
              have hC5 := (C5 rfl).symm
              subst hC5
              have hC6 := (C6 rfl).symm
              subst hC6
              go_simp
              refine (HY1.out w' (H5.out.keep HW)).mono ?_
              rintro e w2 ⟨rfl, rfl⟩
              refine hK.out _ _ ⟨b0, b1, b2, b3, b4, true, true, true, b8, b9, b10, b11, b12, b13, v33, v34, v35, v36, v37, (.int .u32 (xn : Int)), (.slice (some ⟨u0.heap.size + 1, 10, none⟩) 118 118), (.int .u32 (yn : Int)), v41, v42, v43, v44, v6, rfl, by simp only [Act.put, List.getElem_toArray, List.getElem_cons_succ, List.getElem_cons_zero, List.setIfInBounds_toArray, List.set_cons_zero, List.set_cons_succ], HW, D11, D13, C0, C1, C2, C3, C4, C5, C6, (fun _ => rfl), C8, C9, C10, C11, C12⟩
            · obtain rfl : b8 = false := hu
              clear hn
              refine wpOp_shut rfl (fun K' hK => ?_)
              simp only [Act.put, List.getElem_toArray, List.getElem_cons_succ, List.getElem_cons_zero, List.setIfInBounds_toArray, List.set_cons_zero, List.set_cons_succ]
              go_simp
              refine hK.out _ _ ⟨b0, b1, b2, b3, b4, b5, b6, b7, true, b9, b10, b11, b12, b13, v33, v34, v35, v36, v37, v38, v39, v40, (.int .i64 (hn : Int)), v42, v43, v44, v6, rfl, by simp only [Act.put, List.getElem_toArray, List.getElem_cons_succ, List.getElem_cons_zero, List.setIfInBounds_toArray, List.set_cons_zero, List.set_cons_succ], HW, D11, D13, C0, C1, C2, C3, C4, C5, C6, C7, (fun _ => rfl), C9, C10, C11, C12⟩
            · obtain rfl : b9 = false := hu
              obtain rfl : b8 = true := hn 8 (by decide)
              clear hn
              refine wpOp_shut rfl (fun K' hK => ?_)
              simp only [Act.put, List.getElem_toArray, List.getElem_cons_succ, List.getElem_cons_zero, List.setIfInBounds_toArray, List.set_cons_zero, List.set_cons_succ]
              have hC8 := (C8 rfl).symm
              subst hC8
              have hsl := HSL.out w'
              go_simp
              refine hK.out _ _ ⟨b0, b1, b2, b3, b4, b5, b6, b7, true, true, b10, b11, b12, b13, v33, v34, v35, v36, v37, v38, v39, v40, (.int .i64 (hn : Int)), (.slice (some ⟨u0.heap.size + 1, 14, none⟩) sn 114), v43, v44, v6, rfl, by simp only [Act.put, List.getElem_toArray, List.getElem_cons_succ, List.getElem_cons_zero, List.setIfInBounds_toArray, List.set_cons_zero, List.set_cons_succ], HW, D11, D13, C0, C1, C2, C3, C4, C5, C6, C7, C8, (fun _ => rfl), C10, C11, C12⟩
            · obtain rfl : b10 = false := hu
              obtain rfl : b7 = true := hn 7 (by decide)
              obtain rfl : b9 = true := hn 9 (by decide)
              clear hn
              refine wpOp_shut rfl (fun K' hK => ?_)
              simp only [Act.put, List.getElem_toArray, List.getElem_cons_succ, List.getElem_cons_zero, List.setIfInBounds_toArray, List.set_cons_zero, List.set_cons_succ]
              have hC7 := (C7 rfl).symm
              subst hC7
              have hC9 := (C9 rfl).symm
              subst hC9
              go_simp
              refine (HCL.out w' (H5.out.keep HW)).mono ?_
              rintro e w2 ⟨v', rfl, ho, hb⟩
              obtain ⟨ua, uc, rfl⟩ := rd_slice ho.rd
              rw [HDL.out] at ho ⊢
              refine hK.out _ _ ⟨b0, b1, b2, b3, b4, b5, b6, true, b8, true, true, b11, b12, b13, v33, v34, v35, v36, v37, v38, v39, (.int .u32 (yn : Int)), v41, (.slice (some ⟨u0.heap.size + 1, 14, none⟩) sn 114), (.slice ua sn uc), v44, v6, rfl, by simp only [Act.put, List.getElem_toArray, List.getElem_cons_succ, List.getElem_cons_zero, List.setIfInBounds_toArray, List.set_cons_zero, List.set_cons_succ], (HW.trans (hb.mono HW.size)), (fun h => absurd (D11 h) (by simp)), (fun h => absurd (D13 h) (by simp)), C0, C1, C2, C3, C4, C5, C6, C7, C8, C9, (fun _ => ⟨ua, uc, rfl, ho.base (fun k hk => Nat.le_trans HW.size (ho.lt k hk).1)⟩), (fun h => absurd (D11 h) (by simp)), (fun h => by obtain ⟨g, z, e, hg, hz, h1, h2⟩ := C12 h; exact ⟨g, z, e, hg, (hb.block _ (Array.getElem?_eq_some_iff.1 hz).1).trans hz, h1, fun h13 => absurd (D13 h13).1 (by simp)⟩)⟩
            · obtain rfl : b11 = false := hu
              obtain rfl : b1 = true := hn 1 (by decide)
              obtain rfl : b3 = true := hn 3 (by decide)
              obtain rfl : b5 = true := hn 5 (by decide)
              obtain rfl : b7 = true := hn 7 (by decide)
              obtain rfl : b10 = true := hn 10 (by decide)
              clear hn
              refine wpOp_shut rfl (fun K' hK => ?_)
              simp only [Act.put, List.getElem_toArray, List.getElem_cons_succ, List.getElem_cons_zero, List.setIfInBounds_toArray, List.set_cons_zero, List.set_cons_succ]
              have hC1 := (C1 rfl).symm
              subst hC1
              have hC3 := (C3 rfl).symm
              subst hC3
              have hC5 := (C5 rfl).symm
              subst hC5
              have hC7 := (C7 rfl).symm
              subst hC7
              obtain ⟨ua, uc, rfl, ho⟩ := C10 rfl
              go_simp
              refine hK.out _ _ ⟨b0, true, b2, true, b4, true, b6, true, b8, b9, true, true, b12, b13, v33, (.int .u8 (kn : Int)), v35, (.int .u32 (en : Int)), v37, (.int .u32 (xn : Int)), v39, (.int .u32 (yn : Int)), v41, v42, (.slice ua sn uc), (.agg #[.int .u8 (kn : Int), .int .u32 (en : Int), .int .u32 (xn : Int), .int .u32 (yn : Int), .slice ua sn uc]), v6, rfl, by simp only [Act.put, List.getElem_toArray, List.getElem_cons_succ, List.getElem_cons_zero, List.setIfInBounds_toArray, List.set_cons_zero, List.set_cons_succ], HW, (fun _ => rfl), (fun h => absurd (D13 h) (by simp)), C0, C1, C2, C3, C4, C5, C6, C7, C8, C9, (fun _ => ⟨ua, uc, rfl, ho⟩), (fun _ => rfl), (fun h => by obtain ⟨g, z, e, hg, hz, h1, h2⟩ := C12 h; exact ⟨g, z, e, hg, hz, h1, fun h13 => absurd (D13 h13).2.1 (by simp)⟩)⟩
            · obtain rfl : b12 = false := hu
              clear hn
              refine wpOp_shut rfl (fun K' hK => ?_)
              simp only [Act.put, List.getElem_toArray, List.getElem_cons_succ, List.getElem_cons_zero, List.setIfInBounds_toArray, List.set_cons_zero, List.set_cons_succ]
              go_simp
              refine hK.out _ _ ⟨b0, b1, b2, b3, b4, b5, b6, b7, b8, b9, b10, b11, true, b13, v33, v34, v35, v36, v37, v38, v39, v40, v41, v42, v43, v44, (.pointer (some ⟨w'.heap.size, 0, none⟩)), rfl, by simp only [Act.put, List.getElem_toArray, List.getElem_cons_succ, List.getElem_cons_zero, List.setIfInBounds_toArray, List.set_cons_zero, List.set_cons_succ], (HW.alloc HW.size _), D11, (fun h => absurd (D13 h) (by simp)), C0, C1, C2, C3, C4, C5, C6, C7, C8, C9, (fun h => by obtain ⟨ua, uc, e, ho⟩ := C10 h; exact ⟨ua, uc, e, ho.below ((Below.refl _ _).alloc (Nat.le_refl _) _)⟩), C11, (fun _ => ⟨_, _, rfl, HW.size, heap_alloc_new _ _, fun _ => rfl, fun h13 => absurd (D13 h13).2.2 (by simp)⟩)⟩
            · obtain rfl : b13 = false := hu
              obtain rfl : b10 = true := hn 10 (by decide)
              obtain rfl : b11 = true := hn 11 (by decide)
              obtain rfl : b12 = true := hn 12 (by decide)
              clear hn
              refine wpOp_shut rfl (fun K' hK => ?_)
              simp only [Act.put, List.getElem_toArray, List.getElem_cons_succ, List.getElem_cons_zero, List.setIfInBounds_toArray, List.set_cons_zero, List.set_cons_succ]
              have hC11 := (C11 rfl).symm
              subst hC11
              obtain ⟨ua, uc, rfl, ho⟩ := C10 rfl
              obtain ⟨g, z, rfl, hg, hz, h1, -⟩ := C12 rfl
              obtain rfl := h1 rfl
              obtain ⟨⟨m0, m1, m2, m3, m4⟩, f0, f1, f2, f3, f4⟩ := zero5 hz
              go_simp
              refine hK.out _ _ ⟨b0, b1, b2, b3, b4, b5, b6, b7, b8, b9, true, true, true, true, v33, v34, v35, v36, v37, v38, v39, v40, v41, v42, (.slice ua sn uc), (.agg #[.int .u8 (kn : Int), .int .u32 (en : Int), .int .u32 (xn : Int), .int .u32 (yn : Int), .slice ua sn uc]), (.pointer (some ⟨g, 0, none⟩)), rfl, by simp only [Act.put, List.getElem_toArray, List.getElem_cons_succ, List.getElem_cons_zero, List.setIfInBounds_toArray, List.set_cons_zero, List.set_cons_succ], (set5_below HW hg), D11, (fun _ => ⟨rfl, rfl, rfl⟩), C0, C1, C2, C3, C4, C5, C6, C7, C8, C9, (fun _ => ⟨ua, uc, rfl, Own.to ho (fun k hk => set5_other (owns_ne ho hz (by decide) k hk))⟩), C11, (fun _ => ⟨g, _, rfl, hg, set5_heap hz, (fun h => Bool.noConfusion h), fun _ => rfl⟩)⟩
          case fin =>
            rintro L a w' ⟨b0, b1, b2, b3, b4, b5, b6, b7, b8, b9, b10, b11, b12, b13, v33, v34, v35, v36, v37, v38, v39, v40, v41, v42, v43, v44, v6, rfl, rfl, HW, D11, D13, C0, C1, C2, C3, C4, C5, C6, C7, C8, C9, C10, C11, C12⟩ hr
            have hz : b0 = true ∧ b1 = true ∧ b2 = true ∧ b3 = true ∧ b4 = true ∧ b5 = true ∧ b6 = true ∧ b7 = true ∧ b8 = true ∧ b9 = true ∧ b10 = true ∧ b11 = true ∧ b12 = true ∧ b13 = true := by
              have h := ready_done (by kernel_rfl) (by kernel_rfl) hr
              simpa only [List.all_cons, List.all_nil, id, Bool.and_true, Bool.and_eq_true] using h
            obtain ⟨rfl, rfl, rfl, rfl, rfl, rfl, rfl, rfl, rfl, rfl, rfl, rfl, rfl, rfl⟩ := hz
            clear hr
            simp only [Act.put, List.getElem_toArray, List.getElem_cons_succ, List.getElem_cons_zero, List.setIfInBounds_toArray, List.set_cons_zero, List.set_cons_succ]
            obtain ⟨ua, uc, rfl, ho⟩ := C10 rfl
            obtain ⟨g, z, rfl, hg, hz, -, h2⟩ := C12 rfl
            have e44 := (C11 rfl).symm.trans (h2 rfl)
            simp only [Value.agg.injEq] at e44
            subst e44
            clear C0 C1 C2 C3 C4 C5 C6 C7 C8 C9 C10 C11 C12 D11 D13 h2
            obtain ⟨w6, hw6⟩ : ∃ z, z = w' := ⟨_, rfl⟩
            rw [← hw6] at HW hz ho ⊢
            clear hw6
            have H6 := hid (H5.out.keep HW)
            have HOW := hid ho
            have HRD := hid (show Rd w6 (.slice ua sn uc) dt from ho.rd)
            have HZ6 := hid hz
            have HGL := hid (show g < w6.heap.size from (Array.getElem?_eq_some_iff.1 hz).1)
            have HDB := hid (show dt = (blkOf p).data by rw [HDT.out, HSN.out]; rfl)
            have HB110 := hid (show (blkOf p).data.length ≤ 110 by rw [← HDB.out, HDL.out]; have := HN.out; omega)
            obtain ⟨D, hD⟩ : ∃ D, D = ((blkOf p).bytes.map bv).toArray := ⟨_, rfl⟩
            obtain ⟨same, hsame⟩ : ∃ s, s = ((blkOf p).bytes == p) := ⟨_, rfl⟩
            have HEQD := hid (fun (W : World) => show (Op.equalIn 10000 91 (.agg D) (.agg C)).run Try.prog W = .ok same W by
              rw [hD, HC.out, hsame]
              exact run_equalIn_bytes (P := Try.prog) W 9998 91 5 128 Try.underlying91 Try.underlying5 (fun w => by kernel_rfl) _ _ ((blkOf p).bytes_length HB110.out) HL.out)
            have HT := hid (fun W (hR : Rd W (.slice ua sn uc) dt) => show Calls Try.prog 38 #[.agg #[.int .u8 (kn : Int), .int .u32 (en : Int), .int .u32 (xn : Int), .int .u32 (yn : Int), .slice ua sn uc]] W (fun e w' => e = .returned (.agg D) ∧ Below W.heap.size W w') by
              rw [hD, HKN.out, HEN.out, HXN.out, HYN.out]
              exact sector_any (blkOf p) (.slice ua sn uc) W (by rw [← HDB.out]; exact hR) HB110.out)
            have HSM := hid hsame
            clear hD hsame ho hz hg HW
            go_upto_region 11 with fail
            refine Orders.begins (C := []) (by kernel_rfl) ?_
            refine Orders.inv_at (I := fun L A a w => ∃ (b0 b1 b2 b3 : Bool) (v45 v46 v47 v48 : Value), L = #[b0, b1, b2, b3] ∧ a = ((((A.put (some 45) v45).put (some 46) v46).put (some 47) v47).put (some 48) v48) ∧ Below w6.heap.size w6 w ∧ (b0 = true → v45 = .agg #[.int .u8 (kn : Int), .int .u32 (en : Int), .int .u32 (xn : Int), .int .u32 (yn : Int), .slice ua sn uc]) ∧ (b1 = true → v46 = .agg D) ∧ (b2 = true → v47 = .agg C) ∧ (b3 = true → v48 = .bool (!same))) ?start ?step ?fin (by kernel_rfl)
            case start => exact ⟨false, false, false, false, undef, undef, undef, undef, rfl, by simp only [Act.put, List.getElem_toArray, List.getElem_cons_succ, List.getElem_cons_zero, List.setIfInBounds_toArray, List.set_cons_zero, List.set_cons_succ], ((Below.refl _ _).drew), (fun h => Bool.noConfusion h), (fun h => Bool.noConfusion h), (fun h => Bool.noConfusion h), (fun h => Bool.noConfusion h)⟩
            case step =>
              rintro L a w' i ⟨b0, b1, b2, b3, v45, v46, v47, v48, rfl, rfl, HW, C0, C1, C2, C3⟩ hi
              obtain ⟨hlt, hu, hn⟩ := ready_has [[], [0], [], [1, 2]] (by kernel_rfl) (by kernel_rfl) hi
              clear hi
              have hc : i = 0 ∨ i = 1 ∨ i = 2 ∨ i = 3 := (show ∀ i, i < 4 → (i = 0 ∨ i = 1 ∨ i = 2 ∨ i = 3) by decide) i hlt
              clear hlt
              rcases hc with rfl | rfl | rfl | rfl
              · obtain rfl : b0 = false := hu
                clear hn
                refine wpOp_shut rfl (fun K' hK => ?_)
                simp only [Act.put, List.getElem_toArray, List.getElem_cons_succ, List.getElem_cons_zero, List.setIfInBounds_toArray, List.set_cons_zero, List.set_cons_succ]
                have e0 : w'.cell? ⟨g, 0, none⟩ = some (.int .u8 (kn : Int)) := (cell_of_row w' _ _ _ _ _ ((HW.block g HGL.out).trans HZ6.out)).trans rfl
                have e1 : w'.cell? ⟨g, 1, none⟩ = some (.int .u32 (en : Int)) := (cell_of_row w' _ _ _ _ _ ((HW.block g HGL.out).trans HZ6.out)).trans rfl
                have e2 : w'.cell? ⟨g, 2, none⟩ = some (.int .u32 (xn : Int)) := (cell_of_row w' _ _ _ _ _ ((HW.block g HGL.out).trans HZ6.out)).trans rfl
                have e3 : w'.cell? ⟨g, 3, none⟩ = some (.int .u32 (yn : Int)) := (cell_of_row w' _ _ _ _ _ ((HW.block g HGL.out).trans HZ6.out)).trans rfl
                have e4 : w'.cell? ⟨g, 4, none⟩ = some (.slice ua sn uc) := (cell_of_row w' _ _ _ _ _ ((HW.block g HGL.out).trans HZ6.out)).trans rfl
                go_simp
                refine hK.out _ _ ⟨true, b1, b2, b3, (.agg #[.int .u8 (kn : Int), .int .u32 (en : Int), .int .u32 (xn : Int), .int .u32 (yn : Int), .slice ua sn uc]), v46, v47, v48, rfl, by simp only [Act.put, List.getElem_toArray, List.getElem_cons_succ, List.getElem_cons_zero, List.setIfInBounds_toArray, List.set_cons_zero, List.set_cons_succ], HW, (fun _ => rfl), C1, C2, C3⟩
              · obtain rfl : b1 = false := hu
                obtain rfl : b0 = true := hn 0 (by decide)
                clear hn
                refine wpOp_shut rfl (fun K' hK => ?_)
                simp only [Act.put, List.getElem_toArray, List.getElem_cons_succ, List.getElem_cons_zero, List.setIfInBounds_toArray, List.set_cons_zero, List.set_cons_succ]
                have hC0 := (C0 rfl).symm
                subst hC0
                go_simp
                refine (HT.out w' (HRD.out.below HW)).mono ?_
                rintro e w2 ⟨rfl, hb⟩
                refine hK.out _ _ ⟨true, true, b2, b3, (.agg #[.int .u8 (kn : Int), .int .u32 (en : Int), .int .u32 (xn : Int), .int .u32 (yn : Int), .slice ua sn uc]), (.agg D), v47, v48, rfl, by simp only [Act.put, List.getElem_toArray, List.getElem_cons_succ, List.getElem_cons_zero, List.setIfInBounds_toArray, List.set_cons_zero, List.set_cons_succ], (HW.trans (hb.mono HW.size)), C0, (fun _ => rfl), C2, C3⟩
              · obtain rfl : b2 = false := hu
                clear hn
                refine wpOp_shut rfl (fun K' hK => ?_)
                simp only [Act.put, List.getElem_toArray, List.getElem_cons_succ, List.getElem_cons_zero, List.setIfInBounds_toArray, List.set_cons_zero, List.set_cons_succ]
                refine wp_ifB rfl ?_
                refine wp_load_row 91 (.tmp 4) rfl (u0.heap.size + 1) rfl 91 C (0, 0) _ (by rw [HC.out]; exact (H6.out.keep HW).sec) Try.underlying91 rfl HSZ.out ?_
                simp only [Act.put, List.getElem_toArray, List.getElem_cons_succ, List.getElem_cons_zero, List.setIfInBounds_toArray, List.set_cons_zero, List.set_cons_succ]
                refine hK.out _ _ ⟨b0, b1, true, b3, v45, v46, (.agg C), v48, rfl, by simp only [Act.put, List.getElem_toArray, List.getElem_cons_succ, List.getElem_cons_zero, List.setIfInBounds_toArray, List.set_cons_zero, List.set_cons_succ], HW, C0, C1, (fun _ => rfl), C3⟩
              · obtain rfl : b3 = false := hu
                obtain rfl : b1 = true := hn 1 (by decide)
                obtain rfl : b2 = true := hn 2 (by decide)
                clear hn
                refine wpOp_shut rfl (fun K' hK => ?_)
                simp only [Act.put, List.getElem_toArray, List.getElem_cons_succ, List.getElem_cons_zero, List.setIfInBounds_toArray, List.set_cons_zero, List.set_cons_succ]
                have hC1 := (C1 rfl).symm
                subst hC1
                have hC2 := (C2 rfl).symm
                subst hC2
                have heq := HEQD.out w'
                go_simp
                refine hK.out _ _ ⟨b0, true, true, true, v45, (.agg D), (.agg C), (.bool (!same)), rfl, by simp only [Act.put, List.getElem_toArray, List.getElem_cons_succ, List.getElem_cons_zero, List.setIfInBounds_toArray, List.set_cons_zero, List.set_cons_succ], HW, C0, C1, C2, (fun _ => rfl)⟩
            case fin =>
              rintro L a w' ⟨b0, b1, b2, b3, v45, v46, v47, v48, rfl, rfl, HW, C0, C1, C2, C3⟩ hr
              have hz : b0 = true ∧ b1 = true ∧ b2 = true ∧ b3 = true := by
                have h := ready_done (by kernel_rfl) (by kernel_rfl) hr
                simpa only [List.all_cons, List.all_nil, id, Bool.and_true, Bool.and_eq_true] using h
              obtain ⟨rfl, rfl, rfl, rfl⟩ := hz
              clear hr
              simp only [Act.put, List.getElem_toArray, List.getElem_cons_succ, List.getElem_cons_zero, List.setIfInBounds_toArray, List.set_cons_zero, List.set_cons_succ]
              have hC3 := (C3 rfl).symm
              subst hC3
              clear C0 C1 C2 C3
              obtain ⟨w7, hw7⟩ : ∃ z, z = w' := ⟨_, rfl⟩
              rw [← hw7] at HW ⊢
              clear hw7
              have H7 := hid (H6.out.keep HW)
              have HR7 := hid (HOW.out.below HW)
              have HZ7 := hid ((HW.block g HGL.out).trans HZ6.out)
              clear HW
              by_cases hsm : same = true
              · subst hsm
                have HE := hid (show said p = (0, blkOf p) by unfold said; rw [if_neg HZ.out, if_neg HSE.out, if_neg (by rintro (h | h); exact HK.out h; exact HN.out (by rw [HSN.out]; exact h)), if_neg (by have h := HSM.out; rw [eq_comm, beq_iff_eq] at h; exact not_not_intro h)])
                obtain ⟨⟨m0, m1, m2, m3, m4⟩, f0, f1, f2, f3, f4⟩ := H7.out.cells
                obtain ⟨⟨n0, n1, n2, n3, n4⟩, -, -, -, -, -⟩ := zero5 HZ7.out
                go_wp2_with fail
                refine bodyPost_ret (results_cellS rfl _ _ _ u0.heap.size 40 _ (0, 0) _ rfl rfl (set5_heap H7.out.ans) Try.underlying40 (HSTO.out _ rfl)) rfl ?_
                refine ⟨.slice ua sn uc, ?_, ?_, set5_below H7.out.below (Nat.le_refl _)⟩
                · rw [HE.out]
                  unfold Blk.val
                  rw [HKN.out, HEN.out, HXN.out, HYN.out]
                  rfl
                · rw [HE.out]
                  show Own _ _ _ ((p.drop 14).take (p.getD 1 0).toNat)
                  rw [← HSN.out, ← HDT.out]
                  exact (Own.to HR7.out (fun k hk => set5_other (owns_ne HR7.out H7.out.ans (by decide) k hk))).base (fun k hk => Nat.le_trans H5.out.below.size (HR7.out.lt k hk).1)
              · obtain rfl : same = false := by simpa using hsm
                have HE := hid (show said p = (4, Blk.zero) by unfold said; rw [if_neg HZ.out, if_neg HSE.out, if_neg (by rintro (h | h); exact HK.out h; exact HN.out (by rw [HSN.out]; exact h)), if_pos (by have h := HSM.out; intro h2; rw [h2] at h; simp at h)])
                obtain ⟨⟨m0, m1, m2, m3, m4⟩, f0, f1, f2, f3, f4⟩ := H7.out.cells
                go_wp2_with fail
                refine bodyPost_ret (results_cellS rfl _ _ _ u0.heap.size 40 _ (0, 0) _ rfl rfl (set5_heap H7.out.ans) Try.underlying40 hZ0) rfl ?_
                exact ⟨.slice none 0 0, by rw [HE.out]; rfl, by rw [HE.out]; exact Own.nil _ _, set5_below H7.out.below (Nat.le_refl _)⟩
    · have hsb : ((s1 : Int) != (s2 : Int)) = true := by simp only [bne_iff_ne, ne_eq]; omega
      have HS := hid hs
      clear hs
      have HE := hid (show said p = (5, Blk.zero) by unfold said; rw [if_neg HZ.out, if_pos (fun e => HS.out (by rw [HS1.out, HS2.out, e]))])
      obtain ⟨⟨m0, m1, m2, m3, m4⟩, f0, f1, f2, f3, f4⟩ := H5.out.cells
      go_wp2_with fail
      refine bodyPost_ret (results_cellS rfl _ _ _ u0.heap.size 40 _ (0, 0) _ rfl rfl (set5_heap H5.out.ans) Try.underlying40 hZ0) rfl ?_
      exact ⟨.slice none 0 0, by rw [HE.out]; rfl, by rw [HE.out]; exact Own.nil _ _, set5_below H5.out.below (Nat.le_refl _)⟩

end Go.Proofs.Ytbagpckiegpalaa
