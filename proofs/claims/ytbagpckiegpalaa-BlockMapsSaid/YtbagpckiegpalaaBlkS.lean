/-
  Layer 6: (Block).sector: contract.
-/
import Derived.Test.YtbagpckiegpalaaBlkN
import Derived.Test.YtbagpckiegpalaaSlabC
import Derived.Test.YtbagpckiegpalaaSlabC
import Derived.StillTailTactics
namespace Go.Proofs.Ytbagpckiegpalaa
open Go.RowKit
set_option linter.unusedSimpArgs false
set_option linter.unusedVariables false

/-- What a sector says. -/
structure Blk where
  kind : UInt8
  epoch : BitVec 32
  a : BitVec 32
  b : BitVec 32
  data : List UInt8

/-- The bytes of a block, the sum's ones left out; whole. -/
def Blk.front (B : Blk) : List UInt8 := B.kind :: UInt8.ofNat B.data.length :: (Knot.le32 B.epoch ++ (Knot.le32 B.a ++ (Knot.le32 B.b ++ (B.data ++ List.replicate (110 - B.data.length) 0))))
def Blk.bytes (B : Blk) : List UInt8 := B.front ++ Knot.le32 (Crc.sum B.front)

def Blk.val (B : Blk) (dv : Value) : Value := .agg #[.int .u8 (B.kind.toNat : Int), .int .u32 (B.epoch.toNat : Int), .int .u32 (B.a.toNat : Int), .int .u32 (B.b.toNat : Int), dv]

theorem heap3 (w : World) (x y z : Obj) : (((w.alloc x).alloc y).alloc z).heap[w.heap.size]? = some x ∧ (((w.alloc x).alloc y).alloc z).heap[w.heap.size + 1]? = some y ∧ (((w.alloc x).alloc y).alloc z).heap[w.heap.size + 2]? = some z := by
  refine ⟨?_, ?_, ?_⟩
  · show (((w.heap.push x).push y).push z)[w.heap.size]? = some x
    rw [Array.getElem?_push, if_neg (by rw [Array.size_push, Array.size_push]; omega), Array.getElem?_push, if_neg (by rw [Array.size_push]; omega), Array.getElem?_push, if_pos rfl]
  · show (((w.heap.push x).push y).push z)[w.heap.size + 1]? = some y
    rw [Array.getElem?_push, if_neg (by rw [Array.size_push, Array.size_push]; omega), Array.getElem?_push, if_pos (by rw [Array.size_push])]
  · show (((w.heap.push x).push y).push z)[w.heap.size + 2]? = some z
    rw [Array.getElem?_push, if_pos (by rw [Array.size_push, Array.size_push])]

theorem box_out (n : Nat) (vs : List Value) (o : Nat) (w : World) (j : Nat) : (w.setCells (n + 1 + 1) o vs).cell? ⟨n, j, none⟩ = w.cell? ⟨n, j, none⟩ :=
  World.cell?_setCells_out (n + 1 + 1) vs o w ⟨n, j, none⟩ (fun e _ => by have e' : n = n + 1 + 1 := e; omega)

theorem setWord_eq (b off n cap z : Nat) (S : BitVec 32) (w : World) (hz : z = S.toNat) (hm : 4 ≤ n) (hn : n ≤ 1000000)
    (hc : ∀ j, j < 4 → (w.cell? ⟨b, off + j, none⟩).isSome = true) (hf : ∀ j, w.frozen? ⟨b, j, none⟩ = false) :
    Calls Try.prog 55 #[.slice (some ⟨b, off, none⟩) n cap, .int .u32 (z : Int)] w fun e w' => e = .returned (.tuple #[]) ∧ w' = w.setCells b off ((Knot.le32 S).map bv) := by
  subst hz
  exact setWord_any b off n cap S w hm hn hc hf

/-- The world inside (Block).sector: the block in a box, the answer, the sector that grows. -/
structure SecIn (w wi : World) (bc : Array Value) (l : List UInt8) : Prop where
  box : wi.heap[w.heap.size]? = some (.cells bc 40 (0, 0))
  ans : wi.heap[w.heap.size + 1]? = some (.cells Try.zeroCells91 91 (0, 0))
  sec : wi.heap[w.heap.size + 2]? = some (.cells (l.map bv).toArray 91 (0, 0))
  len : l.length = 128
  below : Below w.heap.size w wi

theorem SecIn.is {w wi : World} {bc : Array Value} {l : List UInt8} (h : SecIn w wi bc l) (j : Nat) (hj : j < 128) : (wi.cell? ⟨w.heap.size + 2, j, none⟩).isSome = true := by
  rw [cell_of_row _ _ _ _ _ _ h.sec]
  have := h.len
  simp
  omega

theorem SecIn.fz {w wi : World} {bc : Array Value} {l : List UInt8} (h : SecIn w wi bc l) (j : Nat) : wi.frozen? ⟨w.heap.size + 2, j, none⟩ = false := frozen_of_row _ _ _ _ _ h.sec

theorem map_splice (l m : List UInt8) (o : Nat) : splice (l.map bv) o (m.map bv) = (splice l o m).map bv := by
  unfold splice
  simp

theorem SecIn.put {w wi : World} {bc : Array Value} {l : List UInt8} (h : SecIn w wi bc l) (o : Nat) (m : List UInt8) (ho : o + m.length ≤ 128) : SecIn w (wi.setCells (w.heap.size + 2) o (m.map bv)) bc (splice l o m) := by
  have hs := (Array.getElem?_eq_some_iff.1 h.sec).1
  have hoth : ∀ k, k < wi.heap.size → k ≠ w.heap.size + 2 → (wi.setCells (w.heap.size + 2) o (m.map bv)).heap[k]? = wi.heap[k]? := fun k hk hne => World.heap_setCells_other wi _ o _ hk hne
  refine ⟨(hoth _ (by omega) (by omega)).trans h.box, (hoth _ (by omega) (by omega)).trans h.ans, ?_, ?_, ?_⟩
  · have := heap_setCells_row (w.heap.size + 2) 91 (m.map bv) wi o (l.map bv) h.sec (by simp [h.len]; omega)
    rw [this, map_splice]
  · unfold splice
    simp [h.len]
    omega
  · have k := (Keeps.of_below (S := fun k => w.heap.size ≤ k) h.below (fun i _ hi => hi)).trans' (keeps_setCells (w.heap.size + 2) (m.map bv) wi o) (fun i _ e => by omega)
    exact k.below (Nat.le_refl _) (fun i hi => hi)

theorem SecIn.drew {w wi : World} {bc : Array Value} {l : List UInt8} (h : SecIn w wi bc l) : SecIn w wi.drew bc l := ⟨h.box, h.ans, h.sec, h.len, below_drw h.below⟩

set_option maxRecDepth 100000 in
set_option maxHeartbeats 4000000 in
theorem sector_any (B : Blk) (dv : Value) (w : World) (h : Rd w dv B.data) (hl : B.data.length ≤ 110) :
    Calls Try.prog 38 #[B.val dv] w fun e w' => e = .returned (.agg (B.bytes.map bv).toArray) ∧ Below w.heap.size w w' := by
  obtain ⟨kd, ep, x, y, dt⟩ := B
  have HR := hid h
  obtain ⟨ad, cap, rfl, h1, h2, h3, h4⟩ := h
  unfold maxLen at h2
  dsimp only at hl h1 h2 h3 h4
  obtain ⟨en, hen⟩ : ∃ en, en = ep.toNat := ⟨_, rfl⟩
  obtain ⟨xn, hxn⟩ : ∃ xn, xn = x.toNat := ⟨_, rfl⟩
  obtain ⟨yn, hyn⟩ : ∃ yn, yn = y.toNat := ⟨_, rfl⟩
  obtain ⟨kn, hkn⟩ : ∃ kn, kn = kd.toNat := ⟨_, rfl⟩
  unfold Blk.val
  dsimp only
  rw [← hen, ← hxn, ← hyn, ← hkn]
  have HE := hid hen
  have HX := hid hxn
  have HY := hid hyn
  have HK := hid hkn
  have H3 := hid h3
  have H4' := hid h4
  clear hen hxn hyn hkn h3 h4
  go_enter Try.func38, Try.ntmps38
  go_wp2_with fail
  obtain ⟨bc, hbc⟩ : ∃ bc : Array Value, bc = #[.int .u8 (kn : Int), .int .u32 (en : Int), .int .u32 (xn : Int), .int .u32 (yn : Int), .slice ad dt.length cap] := ⟨_, rfl⟩
  obtain ⟨l0, hl0⟩ : ∃ l0 : List UInt8, l0 = kd :: UInt8.ofNat dt.length :: List.replicate 126 0 := ⟨_, rfl⟩
  obtain ⟨w3, hw3⟩ : ∃ w3, w3 = ((w.alloc (.cells #[.int .u8 (kn : Int), .int .u32 (en : Int), .int .u32 (xn : Int), .int .u32 (yn : Int), .slice ad dt.length cap] 40)).alloc (.cells Try.zeroCells91 91)).alloc (.cells ((Try.zeroCells91.setIfInBounds 0 (.int .u8 (kn : Int))).setIfInBounds 1 (.int .u8 (dt.length : Int))) 91) := ⟨_, rfl⟩
  rw [← hw3]
  have H := hid (show SecIn w w3 bc l0 by
    rw [hw3, hbc]
    have e0 : (Try.zeroCells91.setIfInBounds 0 (.int .u8 (kn : Int))).setIfInBounds 1 (.int .u8 (dt.length : Int)) = (l0.map bv).toArray := by
      rw [hl0, show Try.zeroCells91 = (List.replicate 128 (bv 0)).toArray from rfl, show (kn : Int) = (kd.toNat : Int) by rw [HK.out], show (dt.length : Int) = ((UInt8.ofNat dt.length).toNat : Int) by rw [UInt8.toNat_ofNat_of_lt' (show dt.length < 256 by omega)]]
      rfl
    refine ⟨?_, ?_, ?_, by rw [hl0]; simp, ((((Below.refl _ _).alloc (Nat.le_refl _) _).alloc (by simp) _).alloc (by simp; omega) _)⟩
    · exact (heap3 w _ _ _).1
    · exact (heap3 w _ _ _).2.1
    · rw [e0]
      exact (heap3 w _ _ _).2.2)
  have c0 : ∀ j u, bc[j]? = some u → w3.cell? ⟨w.heap.size, j, none⟩ = some u := fun j u hu => by rw [cell_of_row _ _ _ _ _ _ H.out.box]; exact hu
  have HBC := hid hbc
  have HL0 := hid hl0
  clear hw3 hl0
  have e1 : w3.cell? ⟨w.heap.size, 1, none⟩ = some (.int .u32 (en : Int)) := c0 1 _ (by rw [HBC.out]; rfl)
  clear c0
  have HW1 := hid (setWord_eq (w.heap.size + 1 + 1) 2 126 126 en ep w3.drew HE.out (by omega) (by omega) (fun j hj => H.out.drew.is (2 + j) (by omega)) (fun j => H.out.drew.fz j))
  go_region_held3 (fun w' => w'.cell? ⟨w.heap.size, 1, none⟩ = some (.int .u32 (en : Int)))
    (first | assumption | exact (box_out _ _ _ _ _).trans (by assumption))
    (first
      | (go_at_call 55; refine (HW1.out).mono ?_; rintro e w' ⟨rfl, rfl⟩)
      | fail)
  rename_i hh
  clear hh e1 HW1
  obtain ⟨l4, hl4⟩ : ∃ l4, l4 = splice l0 2 (Knot.le32 ep) := ⟨_, rfl⟩
  obtain ⟨w4, hw4⟩ : ∃ w4, w4 = w3.drew.setCells (w.heap.size + 1 + 1) 2 (List.map bv (Knot.le32 ep)) := ⟨_, rfl⟩
  rw [← hw4]
  have H4 := hid (show SecIn w w4 bc l4 by rw [hw4, hl4]; exact H.out.drew.put 2 (Knot.le32 ep) (show 2 + 4 ≤ 128 by omega))
  have HL4 := hid hl4
  clear hw4 hl4
  have c0 : ∀ j u, bc[j]? = some u → w4.cell? ⟨w.heap.size, j, none⟩ = some u := fun j u hu => by rw [cell_of_row _ _ _ _ _ _ H4.out.box]; exact hu
  have e1 : w4.cell? ⟨w.heap.size, 2, none⟩ = some (.int .u32 (xn : Int)) := c0 2 _ (by rw [HBC.out]; rfl)
  clear c0
  have HW1 := hid (setWord_eq (w.heap.size + 1 + 1) 6 122 122 xn x w4.drew HX.out (by omega) (by omega) (fun j hj => H4.out.drew.is (6 + j) (by omega)) (fun j => H4.out.drew.fz j))
  go_wp2_with fail
  go_region_held3 (fun w' => w'.cell? ⟨w.heap.size, 2, none⟩ = some (.int .u32 (xn : Int)))
    (first | assumption | exact (box_out _ _ _ _ _).trans (by assumption))
    (first
      | (go_at_call 55; refine (HW1.out).mono ?_; rintro e w' ⟨rfl, rfl⟩)
      | fail)
  rename_i hh
  clear hh e1 HW1
  obtain ⟨l5, hl5⟩ : ∃ l5, l5 = splice l4 6 (Knot.le32 x) := ⟨_, rfl⟩
  obtain ⟨w5, hw5⟩ : ∃ w5, w5 = w4.drew.setCells (w.heap.size + 1 + 1) 6 (List.map bv (Knot.le32 x)) := ⟨_, rfl⟩
  rw [← hw5]
  have H5 := hid (show SecIn w w5 bc l5 by rw [hw5, hl5]; exact H4.out.drew.put 6 (Knot.le32 x) (show 6 + 4 ≤ 128 by omega))
  have HL5 := hid hl5
  clear hw5 hl5
  have c0 : ∀ j u, bc[j]? = some u → w5.cell? ⟨w.heap.size, j, none⟩ = some u := fun j u hu => by rw [cell_of_row _ _ _ _ _ _ H5.out.box]; exact hu
  have e1 : w5.cell? ⟨w.heap.size, 3, none⟩ = some (.int .u32 (yn : Int)) := c0 3 _ (by rw [HBC.out]; rfl)
  clear c0
  have HW1 := hid (setWord_eq (w.heap.size + 1 + 1) 10 118 118 yn y w5.drew HY.out (by omega) (by omega) (fun j hj => H5.out.drew.is (10 + j) (by omega)) (fun j => H5.out.drew.fz j))
  go_wp2_with fail
  go_region_held3 (fun w' => w'.cell? ⟨w.heap.size, 3, none⟩ = some (.int .u32 (yn : Int)))
    (first | assumption | exact (box_out _ _ _ _ _).trans (by assumption))
    (first
      | (go_at_call 55; refine (HW1.out).mono ?_; rintro e w' ⟨rfl, rfl⟩)
      | fail)
  rename_i hh
  clear hh e1 HW1
  obtain ⟨l6, hl6⟩ : ∃ l6, l6 = splice l5 10 (Knot.le32 y) := ⟨_, rfl⟩
  obtain ⟨w6, hw6⟩ : ∃ w6, w6 = w5.drew.setCells (w.heap.size + 1 + 1) 10 (List.map bv (Knot.le32 y)) := ⟨_, rfl⟩
  rw [← hw6]
  have H6 := hid (show SecIn w w6 bc l6 by rw [hw6, hl6]; exact H5.out.drew.put 10 (Knot.le32 y) (show 10 + 4 ≤ 128 by omega))
  have HL6 := hid hl6
  clear hw6 hl6
  have e4 : w6.cell? ⟨w.heap.size, 4, none⟩ = some (.slice ad dt.length cap) := by rw [cell_of_row _ _ _ _ _ _ H6.out.box, HBC.out]; rfl
  have hWlt : w.heap.size < w6.drew.heap.size := (Array.getElem?_eq_some_iff.1 H6.out.box).1
  have hWne : ¬ w.heap.size = w.heap.size + 1 + 1 := by omega
  have hdl : (dt.map bv).length = dt.length := List.length_map ..
  have HCN := hid (show (dt.map bv).length = Nat.min dt.length 114 by rw [hdl]; exact (Nat.min_eq_left (by omega)).symm)
  have HFIT := hid (show 14 + (dt.map bv).length ≤ (l6.map bv).length by rw [hdl, List.length_map, H6.out.len]; omega)
  have HC1 := hid (show ∀ v ∈ dt.map bv, v.oneCell' = true by intro v hv; obtain ⟨z, _, rfl⟩ := List.mem_map.1 hv; rfl)
  have HS6 := hid (show w6.drew.heap[w.heap.size + 1 + 1]? = some (.cells (l6.map bv).toArray 91 (0, 0)) from H6.out.drew.sec)
  have HPOS := hid (show 0 < (dt.map bv).length → ∃ a', ad = some a' ∧ ∀ j v, (dt.map bv)[j]? = some v → w6.drew.cell? (a'.add j) = some v by
    intro hpos
    rw [hdl] at hpos
    have hne : ad ≠ none := fun e => by have := H3.out e; omega
    obtain ⟨a', ha'⟩ := Option.ne_none_iff_exists'.1 hne
    refine ⟨a', ha', fun j v hv => ?_⟩
    have hj : j < dt.length := by
      have := (List.getElem?_eq_some_iff.1 hv).1
      rwa [hdl] at this
    have h0 := H4'.out a' ha' j hj
    have hlt := World.block_lt_of_cell? _ _ h0
    rw [show w6.drew.cell? (a'.add j) = w.cell? (a'.add j) from World.cell?_of_block (w := w) (H6.out.below.block _ hlt), h0]
    rw [List.getElem?_map, List.getElem?_eq_getElem hj] at hv
    rw [List.getD_eq_getElem?_getD, List.getElem?_eq_getElem hj]
    simpa using hv)
  clear hdl
  go_wp2_with fail
  go_region_held3 (fun w' => w'.cell? ⟨w.heap.size, 4, none⟩ = some (.slice ad dt.length cap))
    (first | assumption | exact (hk7.cell (p := ⟨w.heap.size, 4, none⟩) hWlt hWne).trans (by assumption))
    (first
      | (refine step_copykeep rfl (.tmp 24) (.tmp 26) 32 32 rfl 5 Try.underlying32 byte_size (some ⟨w.heap.size + 1 + 1, 14, none⟩) ad 114 114 dt.length cap rfl rfl (w.heap.size + 1 + 1) 14 (l6.map bv) 91 HS6.out (dt.map bv) HCN.out (fun h => ⟨rfl, HPOS.out h⟩) HFIT.out HC1.out ?_; intro w7 hg7 hk7)
      | fail)
  rename_i hh
  clear hh e4
  obtain ⟨l7, hl7⟩ : ∃ l7, l7 = splice l6 14 dt := ⟨_, rfl⟩
  have H7 := hid (show SecIn w w7 bc l7 from ⟨(hk7.block _ hWlt hWne).trans H6.out.box, (hk7.block (w.heap.size + 1) (Array.getElem?_eq_some_iff.1 H6.out.ans).1 (by omega)).trans H6.out.ans, by rw [hl7, ← map_splice]; exact hg7.out, by
      rw [hl7]
      have := H6.out.len
      unfold splice
      simp [this]
      omega, ((Keeps.of_below (S := fun k => w.heap.size ≤ k) H6.out.drew.below (fun i _ hi => hi)).trans' hk7 (fun i _ e => by omega)).below (Nat.le_refl _) (fun i hi => hi)⟩)
  have HL7 := hid hl7
  clear hk7 hg7 hl7
  have HLN7 := hid H7.out.len
  have HRS := hid (show Rd w7.drew (.slice (some ⟨w.heap.size + 1 + 1, 0, none⟩) 124 128) (l7.take 124) by
    have := Rd.part (w := w7.drew) (b := w.heap.size + 1 + 1) (off := 0) (cap := 128) (l := l7) (by rw [HLN7.out]; omega) (by omega) (fun j hj => by
      rw [show w7.drew.cell? ⟨w.heap.size + 1 + 1, 0 + j, none⟩ = _ from cell_of_row _ _ _ _ _ _ H7.out.sec]
      simp [List.getD_eq_getElem?_getD, hj]) 0 124 0 128 (by rw [HLN7.out]; omega) rfl rfl
    rwa [List.drop_zero] at this)
  have HSU := hid (sum_any _ _ _ HRS.out)
  obtain ⟨S, hS⟩ : ∃ S, S = Crc.sum (l7.take 124) := ⟨_, rfl⟩
  rw [← hS] at HSU
  obtain ⟨sn, hsn⟩ : ∃ sn, sn = S.toNat := ⟨_, rfl⟩
  rw [← hsn] at HSU
  have HW1 := hid (setWord_eq (w.heap.size + 1 + 1) 124 4 4 sn S w7.drew hsn (by omega) (by omega) (fun j hj => H7.out.drew.is (124 + j) (by omega)) (fun j => H7.out.drew.fz j))
  have HSS := hid hS
  clear hS hsn
  go_wp2_with fail
  go_region_held3 (fun _ => True) (trivial)
    (first
      | (go_at_call 56; refine (HSU.out).mono ?_; rintro e w' ⟨rfl, rfl⟩)
      | (go_at_call 55; refine (HW1.out).mono ?_; rintro e w' ⟨rfl, rfl⟩)
      | fail)
  obtain ⟨l8, hl8⟩ : ∃ l8, l8 = splice l7 124 (Knot.le32 S) := ⟨_, rfl⟩
  obtain ⟨w8, hw8⟩ : ∃ w8, w8 = w7.drew.setCells (w.heap.size + 1 + 1) 124 (List.map bv (Knot.le32 S)) := ⟨_, rfl⟩
  rw [← hw8]
  have H8 := hid (show SecIn w w8 bc l8 by rw [hw8, hl8]; exact H7.out.drew.put 124 (Knot.le32 S) (show 124 + 4 ≤ 128 by omega))
  have HFIN := hid (show l8 = (Blk.mk kd ep x y dt).bytes by
    have hf : l7.take 124 = (Blk.mk kd ep x y dt).front := by
      rw [HL7.out, HL6.out, HL5.out, HL4.out, HL0.out, blk_parts _ _ _ _ _ _ rfl rfl rfl, blk_front _ _ _ _ _ _ rfl rfl rfl hl]
      rfl
    rw [hl8, blk_last _ _ HLN7.out rfl, HSS.out, hf]
    rfl)
  clear hw8 hl8 HW1 HSU HRS
  have HSZ := hid (show (Try.prog.info? 91).map (·.size) = some ((l8.map bv).toArray).size by
    have h0 : (Try.prog.info? 91).map (·.size) = some 128 := by kernel_rfl
    rw [h0, List.size_toArray, List.length_map, H8.out.len])
  have HZ := hid (show Try.zeroCells91.size = ((l8.map bv).toArray).size by
    have h0 : Try.zeroCells91.size = 128 := by kernel_rfl
    rw [h0, List.size_toArray, List.length_map, H8.out.len])
  have HONE := hid (show ((l8.map bv).toArray).all (·.oneCell') = true by
    rw [List.all_toArray, List.all_eq_true]
    intro v hv
    obtain ⟨z, _, rfl⟩ := List.mem_map.1 hv
    rfl)
  obtain ⟨C, hC⟩ : ∃ C, C = (l8.map bv).toArray := ⟨_, rfl⟩
  rw [← hC] at HSZ HZ HONE
  have HSEC := hid (show w8.heap[w.heap.size + 1 + 1]? = some (.cells C 91 (0, 0)) by rw [hC]; exact H8.out.sec)
  have HC := hid hC
  clear hC
  go_wp2_with (first
    | (refine wpList_load_row rfl 91 (.tmp 3) rfl (w.heap.size + 1 + 1) rfl 91 C (0, 0) _ HSEC.out Try.underlying91 rfl HSZ.out ?_)
    | (refine wpList_store_row rfl 91 (.tmp 2) (.tmp 32) rfl (w.heap.size + 1) C rfl rfl 91 Try.zeroCells91 H8.out.ans HSZ.out HZ.out HONE.out ?_)
    | fail)
  refine bodyPost_ret (results_cell_row (P := Try.prog) rfl _ _ (w.heap.size + 1) 91 C (0, 0) _ rfl (setRow_heap w8 (w.heap.size + 1) _ _ _ _ H8.out.ans) Try.underlying91 rfl HSZ.out) rfl ?_
  refine ⟨by rw [HC.out, HFIN.out], H8.out.below.trans ⟨rfl, rfl, rfl, by simp [World.setRow], fun k hk => setRow_other _ _ k _ (by omega)⟩⟩

end Go.Proofs.Ytbagpckiegpalaa
