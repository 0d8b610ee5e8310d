/-
  The document's Tick.
-/
import Derived.Test.YtljnkebmdegcpaaLeaR
import Derived.Deep.RegionWith
import Derived.Deep.Cut
namespace Go.Proofs.Ytljnkebmdegcpaa
open Go.RowKit
set_option linter.unusedVariables false
set_option linter.unusedSimpArgs false

theorem infoRG : (Try.prog.info? 46).map (fun i => (i.zero, i.size, i.bytes)) = some (some (.agg #[.int .i64 0, .int .u32 0]), 2, 16) := by kernel_rfl
theorem owns_ndR {w : World} {lo q n c : Nat} {e : TypeId} {l : List Nd} (h : w.ownsRow lo e 4 (.slice (some ⟨q, 0, none⟩) n c) n (ncels l)) {k : Nat} (hk : k < l.length) :
    w.cell? ⟨q, k * 4, none⟩ = some (.int .u8 ((nd l k).1 : Int)) ∧ w.cell? ⟨q, k * 4 + 1, none⟩ = some (.int .u32 ((nd l k).2.1 : Int)) ∧
    w.cell? ⟨q, k * 4 + 2, none⟩ = some (.int .u32 ((nd l k).2.2.1 : Int)) ∧ w.cell? ⟨q, k * 4 + 3, none⟩ = some (.int .u32 ((nd l k).2.2.2 : Int)) := by
  have hl := h.1
  have hl2 := ncels_len l
  have f : ∀ j v, j < 4 → (ncel (nd l k))[j]? = some v → w.cell? ⟨q, k * 4 + j, none⟩ = some v := fun j v hj hv => (h.cellAt (k * 4 + j) (by omega)).trans (ncels_at l k _ j v (nd_at hk) hv)
  exact ⟨f 0 _ (by omega) rfl, f 1 _ (by omega) rfl, f 2 _ (by omega) rfl, f 3 _ (by omega) rfl⟩

/-- The document's three rows of a tick. -/
structure RkAt (lo : Nat) (w wr : World) (vo vg va : Value) (O : List Nd) (G : List (Nat × Nat)) (A : List Nat) : Prop where
  ho : wr.ownsRow lo 49 4 vo O.length (ncels O)
  hg : wr.ownsRow lo 46 2 vg G.length (gcels G)
  ha : wr.ownsRow lo 3 1 va A.length (A.map ivN)
  b : Below lo w wr
  lo : lo ≤ wr.heap.size
section
variable {lo : Nat} {w wr w2 wA : World} {vo vg va vo' vg' va' : Value} {O : List Nd} {G : List (Nat × Nat)} {A : List Nat}
theorem RkAt.start (h : lo = w.heap.size) : RkAt lo w w (.slice none 0 0) (.slice none 0 0) (.slice none 0 0) [] [] [] :=
  ⟨World.ownsRow_nil _ _ _ _, World.ownsRow_nil _ _ _ _, World.ownsRow_nil _ _ _ _, Below.refl _ _, by omega⟩
theorem RkAt.below (h : RkAt lo w wr vo vg va O G A) (hb : Below wr.heap.size wr w2) : RkAt lo w w2 vo vg va O G A :=
  ⟨owns_below h.ho hb, owns_below h.hg hb, owns_below h.ha hb, h.b.trans (hb.mono h.lo), Nat.le_trans h.lo hb.size⟩
theorem RkAt.alloc (h : RkAt lo w wr vo vg va O G A) (o : Obj) : RkAt lo w (wr.alloc o) vo vg va O G A := h.below ((Below.refl _ _).alloc (Nat.le_refl _) o)
theorem grown_lo {row : Option Nat} (h : RkAt lo w wr vo vg va O G A) (hgr : wr.grownBy wA row) (hr : ∀ q, row = some q → lo ≤ q) : Below lo w wA := h.b.grown hgr h.lo hr
theorem RkAt.addO (h : RkAt lo w wr vo vg va O G A) (x : Nd) (hO : wA.ownsRow lo 49 4 vo' (O.length + 1) (ncels O ++ ncel x)) (hgr : wr.grownBy wA vo.ownBlock) : RkAt lo w wA vo' vg va (O ++ [x]) G A :=
  ⟨by rw [List.length_append, ncels_snoc]; exact hO, owns_by h.hg fun q hq => (Keeps.of_grown hgr).block q (World.ownsRow.lt h.hg q hq).2 (owns_apart h.hg h.ho (by decide) q hq), owns_by h.ha fun q hq => (Keeps.of_grown hgr).block q (World.ownsRow.lt h.ha q hq).2 (owns_apart h.ha h.ho (by decide) q hq), grown_lo h hgr (fun q hq => (World.ownsRow.lt h.ho q hq).1), Nat.le_trans h.lo (Keeps.of_grown hgr).size⟩
theorem RkAt.addG (h : RkAt lo w wr vo vg va O G A) (p : Nat × Nat) (hO : wA.ownsRow lo 46 2 vg' (G.length + 1) (gcels G ++ gcel p)) (hgr : wr.grownBy wA vg.ownBlock) : RkAt lo w wA vo vg' va O (G ++ [p]) A :=
  ⟨owns_by h.ho fun q hq => (Keeps.of_grown hgr).block q (World.ownsRow.lt h.ho q hq).2 (owns_apart h.ho h.hg (by decide) q hq), by rw [List.length_append, gcels_snoc]; exact hO, owns_by h.ha fun q hq => (Keeps.of_grown hgr).block q (World.ownsRow.lt h.ha q hq).2 (owns_apart h.ha h.hg (by decide) q hq), grown_lo h hgr (fun q hq => (World.ownsRow.lt h.hg q hq).1), Nat.le_trans h.lo (Keeps.of_grown hgr).size⟩
theorem RkAt.addA (h : RkAt lo w wr vo vg va O G A) (p : Nat) (hO : wA.ownsRow lo 3 1 va' (A.length + 1) (A.map ivN ++ [ivN p])) (hgr : wr.grownBy wA va.ownBlock) : RkAt lo w wA vo vg va' O G (A ++ [p]) :=
  ⟨owns_by h.ho fun q hq => (Keeps.of_grown hgr).block q (World.ownsRow.lt h.ho q hq).2 (owns_apart h.ho h.ha (by decide) q hq), owns_by h.hg fun q hq => (Keeps.of_grown hgr).block q (World.ownsRow.lt h.hg q hq).2 (owns_apart h.hg h.ha (by decide) q hq), by rw [List.length_append, List.map_append]; exact hO, grown_lo h hgr (fun q hq => (World.ownsRow.lt h.ha q hq).1), Nat.le_trans h.lo (Keeps.of_grown hgr).size⟩
/-- A box that holds a node. -/
theorem box_set {w : World} {g : Nat} {x : Nd} {e : TypeId} (hx : w.heap[g]? = some (.cells (ncel x).toArray e (0, 0))) (c : Nat) (v : Value) (y : Nd) (hv : ncel y = (ncel x).set c v) : (w.setCell ⟨g, c, none⟩ v).heap[g]? = some (.cells (ncel y).toArray e (0, 0)) := by
  rw [heap_setCell_arrL _ _ _ _ _ _ _ hx, hv]; simp
end
theorem ticks_snoc (now : Nat) (l : List Nd) (k : Nat) (h : k < l.length) : (ticks now l).take (k + 1) = (ticks now l).take k ++ [tick1 now (nd l k)] := by
  have e : (ticks now l)[k]? = some (tick1 now (nd l k)) := by unfold ticks; rw [List.getElem?_map, nd_at h]; rfl
  rw [List.take_add_one, e]; rfl
theorem ticks_len (now : Nat) (l : List Nd) : (ticks now l).length = l.length := List.length_map _

set_option maxRecDepth 100000 in
set_option maxHeartbeats 8000000 in
theorem reftick_any (w : World) (lo : Nat) (v : Value) (l : List Nd) (now : Nat) (h : w.ownsRow lo 49 4 v l.length (ncels l)) (hok : ∀ x ∈ l, NdOk x) (hl16 : l.length ≤ 16) (hn : now ≤ 4294967295) :
    Calls Try.prog 12 #[v, .int .u32 (now : Int)] w fun e w' => ∃ vo vg va, e = .returned (.tuple #[vo, vg, va]) ∧ RkAt w.heap.size w w' vo vg va (ticks now l) (grants now l l.length) (aways now l l.length) := by
  obtain ⟨a, c, rfl, -, -⟩ := owns_slice h
  obtain ⟨n, hn'⟩ : ∃ n, n = l.length := ⟨_, rfl⟩
  rw [← hn'] at h hl16 ⊢
  have HN := hid hn'
  have HH := hid h
  have HOK := hid hok
  have HLT := hid (World.ownsRow.lt h)
  have HALL := hid (show (ticks now l).take n = ticks now l from by rw [hn', ← ticks_len now l, List.take_length])
  have HST := hid (RkAt.start (lo := w.heap.size) (w := w) rfl)
  have HREF := hid (fun W => reflater_any (now : Int) 8 (by omega) (by omega) W)
  have HLA := hid (lat_of now)
  clear h hn' hok
  go_enter Try.func12, Try.ntmps12
  go_wp2_with fail
  go_loopw [7, 8, 9, 14] (fun vo vg va i wr => ∃ k : Nat, k ≤ n ∧ i = .int .i64 k ∧ RkAt w.heap.size w wr vo vg va ((ticks now l).take k) (grants now l k) (aways now l k)) (fun _ _ _ i _ => n - (intOf i).toNat)
  case atStart => exact ⟨0, Nat.zero_le _, rfl, HST.out⟩
  case round =>
    obtain ⟨k, hk, rfl, hT⟩ := hrel
    have HT := hid hT
    obtain ⟨ao, co, rfl, hco1, hco2⟩ := owns_slice hT.ho
    obtain ⟨ag, cg, rfl, hcg1, hcg2⟩ := owns_slice hT.hg
    obtain ⟨aa, ca, rfl, hca1, hca2⟩ := owns_slice hT.ha
    have hgl := grants_len now l k
    have hal := aways_len now l k
    have hsw := hT.lo
    have htl : ((ticks now l).take k).length ≤ k := by rw [List.length_take]; omega
    by_cases hlt : k < n
    · have hki : (k : Int) < (n : Int) := by omega
      have HKL := hid (show k < l.length by rw [← HN.out]; exact hlt)
      rcases owns_shape HH.out with ⟨_, h0⟩ | ⟨q, cq, e, hq1, hq2, hq3, hq4⟩
      · omega
      simp only [Value.slice.injEq] at e
      obtain ⟨rfl, -, rfl⟩ := e
      have hoR := owns_below HH.out hT.b
      obtain ⟨c0, c1, c2, c3⟩ := owns_ndR hoR HKL.out
      obtain ⟨o0, o1, o2, o3⟩ := HOK.out _ (nd_mem HKL.out)
      have HS1 := hid (show grants now l (k + 1) = if grant now (nd l k) then grants now l k ++ [(k, (tick1 now (nd l k)).2.2.2)] else grants now l k from rfl)
      have HS2 := hid (show aways now l (k + 1) = if gone now (nd l k) then aways now l k ++ [k] else aways now l k from rfl)
      have HS3 := hid (ticks_snoc now l k HKL.out)
      obtain ⟨x, hx⟩ : ∃ x, x = nd l k := ⟨_, rfl⟩
      rw [← hx] at c0 c1 c2 c3 o0 o1 o2 o3 HS1 HS2 HS3
      obtain ⟨x0, x1, x2, x3⟩ := x
      dsimp only at c0 c1 c2 c3 o0 o1 o2 o3
      generalize grants now l k = G at *
      generalize aways now l k = A at *
      generalize (ticks now l).take k = O at *
      clear hT hx hoR
      obtain ⟨wB, hwB⟩ : ∃ wB, wB = wr.alloc (.cells #[.int .u8 (x0 : Int), .int .u32 (x1 : Int), .int .u32 (x2 : Int), .int .u32 (x3 : Int)] 49) := ⟨_, rfl⟩
      go_upto_region 7 with fail
      rw [← hwB]
      have HBB := hid (show Below wr.heap.size wr wB by rw [hwB]; exact (Below.refl _ _).alloc (Nat.le_refl _) _)
      have hbx : wB.heap[wr.heap.size]? = some (.cells (ncel (x0, x1, x2, x3)).toArray 49 (0, 0)) := by rw [hwB]; exact heap_alloc_new wr _
      have HBX := hid hbx
      have hbs : wr.heap.size < wB.heap.size := (Array.getElem?_eq_some_iff.1 hbx).1
      have hbf : ∀ j, wB.frozen? ⟨wr.heap.size, j, none⟩ = false := fun j => frozen_of_row _ _ _ _ _ hbx
      have b0 : wB.cell? ⟨wr.heap.size, 0, none⟩ = some (.int .u8 (x0 : Int)) := (cell_of_row _ _ _ _ _ _ hbx).trans rfl
      have b2 : wB.cell? ⟨wr.heap.size, 2, none⟩ = some (.int .u32 (x2 : Int)) := (cell_of_row _ _ _ _ _ _ hbx).trans rfl
      have b3 : wB.cell? ⟨wr.heap.size, 3, none⟩ = some (.int .u32 (x3 : Int)) := (cell_of_row _ _ _ _ _ _ hbx).trans rfl
      clear hwB hbx c0 c1 c2 c3
      by_cases h1 : x0 = 1
      · subst h1
        by_cases hq : x2 + 4 ≤ now
        · by_cases hl : x3 < now
          · have b0 : wB.cell? ⟨wr.heap.size, 0, none⟩ = some (.int .u8 1) := b0
            have t1 : tick1 now (1, x1, x2, x3) = (0, x1, x2, x3) := by simp [tick1, dbt, grant, gone, hq, hl]
            have t2 : grant now (1, x1, x2, x3) = false := by simp [tick1, dbt, grant, gone, hq, hl]
            have t3 : gone now (1, x1, x2, x3) = true := by simp [tick1, dbt, grant, gone, hq, hl]
            rw [t1, t2] at HS1
            rw [t3] at HS2
            rw [t1] at HS3
            clear t1 t2 t3
            have R1 := hid (HS1.out.trans (rfl : _ = G))
            have R2 := hid (HS2.out.trans (rfl : _ = A ++ [k]))
            have q1 : decide ((now : Int) - (x2 : Int) ≥ 4) = true := decide_eq_true (by omega)
            have q2 : decide ((4 : Int) ≤ (now : Int) - (x2 : Int)) = true := decide_eq_true (by omega)
            have hlI : x3 < now := hl
            have hlD : decide ((x3 : Int) < (now : Int)) = true := decide_eq_true (by omega)
            have HTB := hid (HT.out.below HBB.out)
            go_upto_region 9 with fail
            obtain ⟨wC, hwC⟩ : ∃ x, x = wB.setCell ⟨wr.heap.size, 0, none⟩ (.int .u8 2) := ⟨_, rfl⟩
            rw [← hwC]
            have HBwC := hid (show Below wr.heap.size wr wC by rw [hwC]; exact (HBB.out.setCell (p := ⟨wr.heap.size, 0, none⟩) (Nat.le_refl _) _))
            have hxwC : wC.heap[wr.heap.size]? = some (.cells (ncel (2, x1, x2, x3)).toArray 49 (0, 0)) := by rw [hwC]; exact box_set HBX.out 0 _ (2, x1, x2, x3) rfl
            have nwC0 : wC.cell? ⟨wr.heap.size, 0, none⟩ = some (.int .u8 2) := (cell_of_row _ _ _ _ _ _ hxwC).trans rfl
            have nwC1 : wC.cell? ⟨wr.heap.size, 1, none⟩ = some (.int .u32 (x1 : Int)) := (cell_of_row _ _ _ _ _ _ hxwC).trans rfl
            have nwC2 : wC.cell? ⟨wr.heap.size, 2, none⟩ = some (.int .u32 (x2 : Int)) := (cell_of_row _ _ _ _ _ _ hxwC).trans rfl
            have nwC3 : wC.cell? ⟨wr.heap.size, 3, none⟩ = some (.int .u32 (x3 : Int)) := (cell_of_row _ _ _ _ _ _ hxwC).trans rfl
            have fwC : ∀ j, wC.frozen? ⟨wr.heap.size, j, none⟩ = false := fun j => frozen_of_row _ _ _ _ _ hxwC
            have HXwC := hid hxwC
            have HTwC := hid (HT.out.below HBwC.out)
            have swC := HBwC.out.size
            have lwC := (Array.getElem?_eq_some_iff.1 hxwC).1
            clear hwC hxwC
            clear b0 b2 b3 hbf
            go_upto_region 14 with fail
            obtain ⟨wD, hwD⟩ : ∃ x, x = wC.setCell ⟨wr.heap.size, 0, none⟩ (.int .u8 0) := ⟨_, rfl⟩
            rw [← hwD]
            have HBwD := hid (show Below wr.heap.size wr wD by rw [hwD]; exact (HBwC.out.setCell (p := ⟨wr.heap.size, 0, none⟩) (Nat.le_refl _) _))
            have hxwD : wD.heap[wr.heap.size]? = some (.cells (ncel (0, x1, x2, x3)).toArray 49 (0, 0)) := by rw [hwD]; exact box_set HXwC.out 0 _ (0, x1, x2, x3) rfl
            have nwD0 : wD.cell? ⟨wr.heap.size, 0, none⟩ = some (.int .u8 0) := (cell_of_row _ _ _ _ _ _ hxwD).trans rfl
            have nwD1 : wD.cell? ⟨wr.heap.size, 1, none⟩ = some (.int .u32 (x1 : Int)) := (cell_of_row _ _ _ _ _ _ hxwD).trans rfl
            have nwD2 : wD.cell? ⟨wr.heap.size, 2, none⟩ = some (.int .u32 (x2 : Int)) := (cell_of_row _ _ _ _ _ _ hxwD).trans rfl
            have nwD3 : wD.cell? ⟨wr.heap.size, 3, none⟩ = some (.int .u32 (x3 : Int)) := (cell_of_row _ _ _ _ _ _ hxwD).trans rfl
            have fwD : ∀ j, wD.frozen? ⟨wr.heap.size, j, none⟩ = false := fun j => frozen_of_row _ _ _ _ _ hxwD
            have HXwD := hid hxwD
            have HTwD := hid (HT.out.below HBwD.out)
            have swD := HBwD.out.size
            have lwD := (Array.getElem?_eq_some_iff.1 hxwD).1
            clear hwD hxwD
            clear nwC0 nwC1 nwC2 nwC3 fwC
            go_wp2_with (first | (at_builtin; (refine appsw (by rfl) 39 3 (.tmp 58) (.tmp 60) rfl w.heap.size 1 8 _ Try.underlying39 infoInt rfl (by decide) (.slice aa A.length ca) _ A.length 1 (A.length + 1) (A.map ivN) [ivN k] rfl rfl (HTwD.out.alloc _).ha (SrcC.lit _ _ _ 1 [ivN k] rfl) rfl (by intro y hy; rw [List.mem_singleton] at hy; subst hy; rfl) rfl (by omega) (by omega) (by simp; omega) ?_); intro ad8 cp8 w8 ho8 hg8; have HT8 := hid ((HTwD.out.alloc _).addA k ho8 hg8); have hs8 := HT8.out.lo; have hx8 := ((Keeps.of_grown hg8).block wr.heap.size (by rw [World.size_alloc]; omega) (fun e => by have := (World.ownsRow.lt HT.out.ha _ e).2; omega)).trans (((Keeps.refl (fun _ => False) wD).alloc (.cells [ivN k].toArray 3)).block wr.heap.size (by omega) id |>.trans HXwD.out); have m0 : w8.cell? ⟨wr.heap.size, 0, none⟩ = some (.int .u8 0) := (cell_of_row _ _ _ _ _ _ hx8).trans rfl; have m1 : w8.cell? ⟨wr.heap.size, 1, none⟩ = some (.int .u32 (x1 : Int)) := (cell_of_row _ _ _ _ _ _ hx8).trans rfl; have m2 : w8.cell? ⟨wr.heap.size, 2, none⟩ = some (.int .u32 (x2 : Int)) := (cell_of_row _ _ _ _ _ _ hx8).trans rfl; have m3 : w8.cell? ⟨wr.heap.size, 3, none⟩ = some (.int .u32 (x3 : Int)) := (cell_of_row _ _ _ _ _ _ hx8).trans rfl; clear ho8 hg8 hx8) | (at_builtin; (refine appsw (by rfl) 28 49 (.tmp 62) (.tmp 64) rfl w.heap.size 4 16 _ Try.underlying28 infoR rfl (by decide) (.slice ao O.length co) _ O.length 1 (O.length + 1) (ncels O) (ncel (0, x1, x2, x3)) rfl rfl (HT8.out.alloc _).ho (SrcC.lit _ _ _ 1 (ncel (0, x1, x2, x3)) rfl) rfl (by intro u hu; simp [ncel] at hu; rcases hu with rfl | rfl | rfl | rfl <;> rfl) rfl (by omega) (by omega) (by simp; omega) ?_); intro ad9 cp9 w9 hoA hgA; have HF := hid ((HT8.out.alloc _).addO (0, x1, x2, x3) hoA hgA); clear hoA hgA) | fail)
            go_roundw
            case rel => exact ⟨k + 1, hlt, by go_num, by rw [HS3.out, R1.out, R2.out]; exact HF.out⟩
            case measure => simp [intOf]; omega
          · have b0 : wB.cell? ⟨wr.heap.size, 0, none⟩ = some (.int .u8 1) := b0
            have t1 : tick1 now (1, x1, x2, x3) = (2, x1, x2, x3) := by simp [tick1, dbt, grant, gone, hq, hl]
            have t2 : grant now (1, x1, x2, x3) = false := by simp [tick1, dbt, grant, gone, hq, hl]
            have t3 : gone now (1, x1, x2, x3) = false := by simp [tick1, dbt, grant, gone, hq, hl]
            rw [t1, t2] at HS1
            rw [t3] at HS2
            rw [t1] at HS3
            clear t1 t2 t3
            have R1 := hid (HS1.out.trans (rfl : _ = G))
            have R2 := hid (HS2.out.trans (rfl : _ = A))
            have q1 : decide ((now : Int) - (x2 : Int) ≥ 4) = true := decide_eq_true (by omega)
            have q2 : decide ((4 : Int) ≤ (now : Int) - (x2 : Int)) = true := decide_eq_true (by omega)
            have hlI : ¬ x3 < now := hl
            have hlD : decide ((x3 : Int) < (now : Int)) = false := decide_eq_false (by omega)
            have HTB := hid (HT.out.below HBB.out)
            go_upto_region 9 with fail
            obtain ⟨wC, hwC⟩ : ∃ x, x = wB.setCell ⟨wr.heap.size, 0, none⟩ (.int .u8 2) := ⟨_, rfl⟩
            rw [← hwC]
            have HBwC := hid (show Below wr.heap.size wr wC by rw [hwC]; exact (HBB.out.setCell (p := ⟨wr.heap.size, 0, none⟩) (Nat.le_refl _) _))
            have hxwC : wC.heap[wr.heap.size]? = some (.cells (ncel (2, x1, x2, x3)).toArray 49 (0, 0)) := by rw [hwC]; exact box_set HBX.out 0 _ (2, x1, x2, x3) rfl
            have nwC0 : wC.cell? ⟨wr.heap.size, 0, none⟩ = some (.int .u8 2) := (cell_of_row _ _ _ _ _ _ hxwC).trans rfl
            have nwC1 : wC.cell? ⟨wr.heap.size, 1, none⟩ = some (.int .u32 (x1 : Int)) := (cell_of_row _ _ _ _ _ _ hxwC).trans rfl
            have nwC2 : wC.cell? ⟨wr.heap.size, 2, none⟩ = some (.int .u32 (x2 : Int)) := (cell_of_row _ _ _ _ _ _ hxwC).trans rfl
            have nwC3 : wC.cell? ⟨wr.heap.size, 3, none⟩ = some (.int .u32 (x3 : Int)) := (cell_of_row _ _ _ _ _ _ hxwC).trans rfl
            have fwC : ∀ j, wC.frozen? ⟨wr.heap.size, j, none⟩ = false := fun j => frozen_of_row _ _ _ _ _ hxwC
            have HXwC := hid hxwC
            have HTwC := hid (HT.out.below HBwC.out)
            have swC := HBwC.out.size
            have lwC := (Array.getElem?_eq_some_iff.1 hxwC).1
            clear hwC hxwC
            clear b0 b2 b3 hbf
            go_wp2_with (first | (at_builtin; (refine appsw (by rfl) 28 49 (.tmp 62) (.tmp 64) rfl w.heap.size 4 16 _ Try.underlying28 infoR rfl (by decide) (.slice ao O.length co) _ O.length 1 (O.length + 1) (ncels O) (ncel (2, x1, x2, x3)) rfl rfl (HTwC.out.alloc _).ho (SrcC.lit _ _ _ 1 (ncel (2, x1, x2, x3)) rfl) rfl (by intro u hu; simp [ncel] at hu; rcases hu with rfl | rfl | rfl | rfl <;> rfl) rfl (by omega) (by omega) (by simp; omega) ?_); intro ad9 cp9 w9 hoA hgA; have HF := hid ((HTwC.out.alloc _).addO (2, x1, x2, x3) hoA hgA); clear hoA hgA) | fail)
            go_roundw
            case rel => exact ⟨k + 1, hlt, by go_num, by rw [HS3.out, R1.out, R2.out]; exact HF.out⟩
            case measure => simp [intOf]; omega
        · have b0 : wB.cell? ⟨wr.heap.size, 0, none⟩ = some (.int .u8 1) := b0
          have t1 : tick1 now (1, x1, x2, x3) = (1, x1, x2, max x3 (lat now)) := by simp [tick1, dbt, grant, gone, hq]
          have t2 : grant now (1, x1, x2, x3) = true := by simp [tick1, dbt, grant, gone, hq]
          have t3 : gone now (1, x1, x2, x3) = false := by simp [tick1, dbt, grant, gone, hq]
          rw [t1, t2] at HS1
          rw [t3] at HS2
          rw [t1] at HS3
          clear t1 t2 t3
          have R1 := hid (HS1.out.trans (rfl : _ = G ++ [(k, max x3 (lat now))]))
          have R2 := hid (HS2.out.trans (rfl : _ = A))
          have q1 : decide ((now : Int) - (x2 : Int) ≥ 4) = false := decide_eq_false (by omega)
          have q2 : decide ((4 : Int) ≤ (now : Int) - (x2 : Int)) = false := decide_eq_false (by omega)
          have HTB := hid (HT.out.below HBB.out)
          have b3d : wB.drew.cell? ⟨wr.heap.size, 3, none⟩ = some (.int .u32 (x3 : Int)) := b3
          have f3d : wB.drew.frozen? ⟨wr.heap.size, 3, none⟩ = false := hbf 3
          generalize lat now = z at *
          by_cases hm : x3 < z
          · rw [Nat.max_eq_right (Nat.le_of_lt hm)] at *
            go_upto_region 10 with fail
            go_region_with (first | (go_at_call 17; refine (HREF.out _).mono ?_; rintro e w' ⟨rfl, rfl⟩; rw [HLA.out]) | fail)
            all_goals
              obtain ⟨wC, hwC⟩ : ∃ x, x = (wB.setCell ⟨wr.heap.size, 3, none⟩ (.int .u32 (z : Int))).drew := ⟨_, rfl⟩
              rw [← hwC]
              have HBwC := hid (show Below wr.heap.size wr wC by rw [hwC]; exact (HBB.out.setCell (p := ⟨wr.heap.size, 3, none⟩) (Nat.le_refl _) _).drew)
              have hxwC : wC.heap[wr.heap.size]? = some (.cells (ncel (1, x1, x2, z)).toArray 49 (0, 0)) := by rw [hwC]; exact box_set HBX.out 3 _ (1, x1, x2, z) rfl
              have nwC0 : wC.cell? ⟨wr.heap.size, 0, none⟩ = some (.int .u8 1) := (cell_of_row _ _ _ _ _ _ hxwC).trans rfl
              have nwC1 : wC.cell? ⟨wr.heap.size, 1, none⟩ = some (.int .u32 (x1 : Int)) := (cell_of_row _ _ _ _ _ _ hxwC).trans rfl
              have nwC2 : wC.cell? ⟨wr.heap.size, 2, none⟩ = some (.int .u32 (x2 : Int)) := (cell_of_row _ _ _ _ _ _ hxwC).trans rfl
              have nwC3 : wC.cell? ⟨wr.heap.size, 3, none⟩ = some (.int .u32 (z : Int)) := (cell_of_row _ _ _ _ _ _ hxwC).trans rfl
              have fwC : ∀ j, wC.frozen? ⟨wr.heap.size, j, none⟩ = false := fun j => frozen_of_row _ _ _ _ _ hxwC
              have HXwC := hid hxwC
              have HTwC := hid (HT.out.below HBwC.out)
              have swC := HBwC.out.size
              have lwC := (Array.getElem?_eq_some_iff.1 hxwC).1
              clear hwC hxwC
              clear b0 b2 b3 hbf b3d f3d
              go_wp2_with (first | (at_builtin; (refine appsw (by rfl) 38 46 (.tmp 41) (.tmp 46) rfl w.heap.size 2 16 _ Try.underlying38 infoRG rfl (by decide) (.slice ag G.length cg) _ G.length 1 (G.length + 1) (gcels G) (gcel (k, z)) rfl rfl (HTwC.out.alloc _).hg (SrcC.lit _ _ _ 1 (gcel (k, z)) rfl) rfl (by intro u hu; simp [gcel] at hu; rcases hu with rfl | rfl <;> rfl) rfl (by omega) (by omega) (by simp; omega) ?_); intro ad8 cp8 w8 ho8 hg8; have HT8 := hid ((HTwC.out.alloc _).addG (k, z) ho8 hg8); have hs8 := HT8.out.lo; have hx8 := ((Keeps.of_grown hg8).block wr.heap.size (by rw [World.size_alloc]; omega) (fun e => by have := (World.ownsRow.lt HT.out.hg _ e).2; omega)).trans (((Keeps.refl (fun _ => False) wC).alloc (.cells (gcel (k, z)).toArray 46)).block wr.heap.size (by omega) id |>.trans HXwC.out); have m0 : w8.cell? ⟨wr.heap.size, 0, none⟩ = some (.int .u8 1) := (cell_of_row _ _ _ _ _ _ hx8).trans rfl; have m1 : w8.cell? ⟨wr.heap.size, 1, none⟩ = some (.int .u32 (x1 : Int)) := (cell_of_row _ _ _ _ _ _ hx8).trans rfl; have m2 : w8.cell? ⟨wr.heap.size, 2, none⟩ = some (.int .u32 (x2 : Int)) := (cell_of_row _ _ _ _ _ _ hx8).trans rfl; have m3 : w8.cell? ⟨wr.heap.size, 3, none⟩ = some (.int .u32 (z : Int)) := (cell_of_row _ _ _ _ _ _ hx8).trans rfl; clear ho8 hg8 hx8) | (at_builtin; (refine appsw (by rfl) 28 49 (.tmp 62) (.tmp 64) rfl w.heap.size 4 16 _ Try.underlying28 infoR rfl (by decide) (.slice ao O.length co) _ O.length 1 (O.length + 1) (ncels O) (ncel (1, x1, x2, z)) rfl rfl (HT8.out.alloc _).ho (SrcC.lit _ _ _ 1 (ncel (1, x1, x2, z)) rfl) rfl (by intro u hu; simp [ncel] at hu; rcases hu with rfl | rfl | rfl | rfl <;> rfl) rfl (by omega) (by omega) (by simp; omega) ?_); intro ad9 cp9 w9 hoA hgA; have HF := hid ((HT8.out.alloc _).addO (1, x1, x2, z) hoA hgA); clear hoA hgA) | fail)
              go_roundw
              case rel => exact ⟨k + 1, hlt, by go_num, by rw [HS3.out, R1.out, R2.out]; exact HF.out⟩
              case measure => simp [intOf]; omega
          · rw [Nat.max_eq_left (Nat.le_of_not_lt hm)] at *
            go_upto_region 10 with fail
            go_region_with (first | (go_at_call 17; refine (HREF.out _).mono ?_; rintro e w' ⟨rfl, rfl⟩; rw [HLA.out]) | fail)
            all_goals
              obtain ⟨wC, hwC⟩ : ∃ x, x = (wB.setCell ⟨wr.heap.size, 3, none⟩ (.int .u32 (x3 : Int))).drew := ⟨_, rfl⟩
              rw [← hwC]
              have HBwC := hid (show Below wr.heap.size wr wC by rw [hwC]; exact (HBB.out.setCell (p := ⟨wr.heap.size, 3, none⟩) (Nat.le_refl _) _).drew)
              have hxwC : wC.heap[wr.heap.size]? = some (.cells (ncel (1, x1, x2, x3)).toArray 49 (0, 0)) := by rw [hwC]; exact box_set HBX.out 3 _ (1, x1, x2, x3) rfl
              have nwC0 : wC.cell? ⟨wr.heap.size, 0, none⟩ = some (.int .u8 1) := (cell_of_row _ _ _ _ _ _ hxwC).trans rfl
              have nwC1 : wC.cell? ⟨wr.heap.size, 1, none⟩ = some (.int .u32 (x1 : Int)) := (cell_of_row _ _ _ _ _ _ hxwC).trans rfl
              have nwC2 : wC.cell? ⟨wr.heap.size, 2, none⟩ = some (.int .u32 (x2 : Int)) := (cell_of_row _ _ _ _ _ _ hxwC).trans rfl
              have nwC3 : wC.cell? ⟨wr.heap.size, 3, none⟩ = some (.int .u32 (x3 : Int)) := (cell_of_row _ _ _ _ _ _ hxwC).trans rfl
              have fwC : ∀ j, wC.frozen? ⟨wr.heap.size, j, none⟩ = false := fun j => frozen_of_row _ _ _ _ _ hxwC
              have HXwC := hid hxwC
              have HTwC := hid (HT.out.below HBwC.out)
              have swC := HBwC.out.size
              have lwC := (Array.getElem?_eq_some_iff.1 hxwC).1
              clear hwC hxwC
              clear b0 b2 b3 hbf b3d f3d
              go_wp2_with (first | (at_builtin; (refine appsw (by rfl) 38 46 (.tmp 41) (.tmp 46) rfl w.heap.size 2 16 _ Try.underlying38 infoRG rfl (by decide) (.slice ag G.length cg) _ G.length 1 (G.length + 1) (gcels G) (gcel (k, x3)) rfl rfl (HTwC.out.alloc _).hg (SrcC.lit _ _ _ 1 (gcel (k, x3)) rfl) rfl (by intro u hu; simp [gcel] at hu; rcases hu with rfl | rfl <;> rfl) rfl (by omega) (by omega) (by simp; omega) ?_); intro ad8 cp8 w8 ho8 hg8; have HT8 := hid ((HTwC.out.alloc _).addG (k, x3) ho8 hg8); have hs8 := HT8.out.lo; have hx8 := ((Keeps.of_grown hg8).block wr.heap.size (by rw [World.size_alloc]; omega) (fun e => by have := (World.ownsRow.lt HT.out.hg _ e).2; omega)).trans (((Keeps.refl (fun _ => False) wC).alloc (.cells (gcel (k, x3)).toArray 46)).block wr.heap.size (by omega) id |>.trans HXwC.out); have m0 : w8.cell? ⟨wr.heap.size, 0, none⟩ = some (.int .u8 1) := (cell_of_row _ _ _ _ _ _ hx8).trans rfl; have m1 : w8.cell? ⟨wr.heap.size, 1, none⟩ = some (.int .u32 (x1 : Int)) := (cell_of_row _ _ _ _ _ _ hx8).trans rfl; have m2 : w8.cell? ⟨wr.heap.size, 2, none⟩ = some (.int .u32 (x2 : Int)) := (cell_of_row _ _ _ _ _ _ hx8).trans rfl; have m3 : w8.cell? ⟨wr.heap.size, 3, none⟩ = some (.int .u32 (x3 : Int)) := (cell_of_row _ _ _ _ _ _ hx8).trans rfl; clear ho8 hg8 hx8) | (at_builtin; (refine appsw (by rfl) 28 49 (.tmp 62) (.tmp 64) rfl w.heap.size 4 16 _ Try.underlying28 infoR rfl (by decide) (.slice ao O.length co) _ O.length 1 (O.length + 1) (ncels O) (ncel (1, x1, x2, x3)) rfl rfl (HT8.out.alloc _).ho (SrcC.lit _ _ _ 1 (ncel (1, x1, x2, x3)) rfl) rfl (by intro u hu; simp [ncel] at hu; rcases hu with rfl | rfl | rfl | rfl <;> rfl) rfl (by omega) (by omega) (by simp; omega) ?_); intro ad9 cp9 w9 hoA hgA; have HF := hid ((HT8.out.alloc _).addO (1, x1, x2, x3) hoA hgA); clear hoA hgA) | fail)
              go_roundw
              case rel => exact ⟨k + 1, hlt, by go_num, by rw [HS3.out, R1.out, R2.out]; exact HF.out⟩
              case measure => simp [intOf]; omega
      · by_cases h2 : x0 = 2
        · subst h2
          by_cases hl : x3 < now
          · have b0 : wB.cell? ⟨wr.heap.size, 0, none⟩ = some (.int .u8 2) := b0
            have t1 : tick1 now (2, x1, x2, x3) = (0, x1, x2, x3) := by simp [tick1, dbt, grant, gone, hl]
            have t2 : grant now (2, x1, x2, x3) = false := by simp [tick1, dbt, grant, gone, hl]
            have t3 : gone now (2, x1, x2, x3) = true := by simp [tick1, dbt, grant, gone, hl]
            rw [t1, t2] at HS1
            rw [t3] at HS2
            rw [t1] at HS3
            clear t1 t2 t3
            have R1 := hid (HS1.out.trans (rfl : _ = G))
            have R2 := hid (HS2.out.trans (rfl : _ = A ++ [k]))
            have hlI : x3 < now := hl
            have hlD : decide ((x3 : Int) < (now : Int)) = true := decide_eq_true (by omega)
            have HTB := hid (HT.out.below HBB.out)
            go_upto_region 14 with fail
            obtain ⟨wC, hwC⟩ : ∃ x, x = wB.setCell ⟨wr.heap.size, 0, none⟩ (.int .u8 0) := ⟨_, rfl⟩
            rw [← hwC]
            have HBwC := hid (show Below wr.heap.size wr wC by rw [hwC]; exact (HBB.out.setCell (p := ⟨wr.heap.size, 0, none⟩) (Nat.le_refl _) _))
            have hxwC : wC.heap[wr.heap.size]? = some (.cells (ncel (0, x1, x2, x3)).toArray 49 (0, 0)) := by rw [hwC]; exact box_set HBX.out 0 _ (0, x1, x2, x3) rfl
            have nwC0 : wC.cell? ⟨wr.heap.size, 0, none⟩ = some (.int .u8 0) := (cell_of_row _ _ _ _ _ _ hxwC).trans rfl
            have nwC1 : wC.cell? ⟨wr.heap.size, 1, none⟩ = some (.int .u32 (x1 : Int)) := (cell_of_row _ _ _ _ _ _ hxwC).trans rfl
            have nwC2 : wC.cell? ⟨wr.heap.size, 2, none⟩ = some (.int .u32 (x2 : Int)) := (cell_of_row _ _ _ _ _ _ hxwC).trans rfl
            have nwC3 : wC.cell? ⟨wr.heap.size, 3, none⟩ = some (.int .u32 (x3 : Int)) := (cell_of_row _ _ _ _ _ _ hxwC).trans rfl
            have fwC : ∀ j, wC.frozen? ⟨wr.heap.size, j, none⟩ = false := fun j => frozen_of_row _ _ _ _ _ hxwC
            have HXwC := hid hxwC
            have HTwC := hid (HT.out.below HBwC.out)
            have swC := HBwC.out.size
            have lwC := (Array.getElem?_eq_some_iff.1 hxwC).1
            clear hwC hxwC
            clear b0 b2 b3 hbf
            go_wp2_with (first | (at_builtin; (refine appsw (by rfl) 39 3 (.tmp 58) (.tmp 60) rfl w.heap.size 1 8 _ Try.underlying39 infoInt rfl (by decide) (.slice aa A.length ca) _ A.length 1 (A.length + 1) (A.map ivN) [ivN k] rfl rfl (HTwC.out.alloc _).ha (SrcC.lit _ _ _ 1 [ivN k] rfl) rfl (by intro y hy; rw [List.mem_singleton] at hy; subst hy; rfl) rfl (by omega) (by omega) (by simp; omega) ?_); intro ad8 cp8 w8 ho8 hg8; have HT8 := hid ((HTwC.out.alloc _).addA k ho8 hg8); have hs8 := HT8.out.lo; have hx8 := ((Keeps.of_grown hg8).block wr.heap.size (by rw [World.size_alloc]; omega) (fun e => by have := (World.ownsRow.lt HT.out.ha _ e).2; omega)).trans (((Keeps.refl (fun _ => False) wC).alloc (.cells [ivN k].toArray 3)).block wr.heap.size (by omega) id |>.trans HXwC.out); have m0 : w8.cell? ⟨wr.heap.size, 0, none⟩ = some (.int .u8 0) := (cell_of_row _ _ _ _ _ _ hx8).trans rfl; have m1 : w8.cell? ⟨wr.heap.size, 1, none⟩ = some (.int .u32 (x1 : Int)) := (cell_of_row _ _ _ _ _ _ hx8).trans rfl; have m2 : w8.cell? ⟨wr.heap.size, 2, none⟩ = some (.int .u32 (x2 : Int)) := (cell_of_row _ _ _ _ _ _ hx8).trans rfl; have m3 : w8.cell? ⟨wr.heap.size, 3, none⟩ = some (.int .u32 (x3 : Int)) := (cell_of_row _ _ _ _ _ _ hx8).trans rfl; clear ho8 hg8 hx8) | (at_builtin; (refine appsw (by rfl) 28 49 (.tmp 62) (.tmp 64) rfl w.heap.size 4 16 _ Try.underlying28 infoR rfl (by decide) (.slice ao O.length co) _ O.length 1 (O.length + 1) (ncels O) (ncel (0, x1, x2, x3)) rfl rfl (HT8.out.alloc _).ho (SrcC.lit _ _ _ 1 (ncel (0, x1, x2, x3)) rfl) rfl (by intro u hu; simp [ncel] at hu; rcases hu with rfl | rfl | rfl | rfl <;> rfl) rfl (by omega) (by omega) (by simp; omega) ?_); intro ad9 cp9 w9 hoA hgA; have HF := hid ((HT8.out.alloc _).addO (0, x1, x2, x3) hoA hgA); clear hoA hgA) | fail)
            go_roundw
            case rel => exact ⟨k + 1, hlt, by go_num, by rw [HS3.out, R1.out, R2.out]; exact HF.out⟩
            case measure => simp [intOf]; omega
          · have b0 : wB.cell? ⟨wr.heap.size, 0, none⟩ = some (.int .u8 2) := b0
            have t1 : tick1 now (2, x1, x2, x3) = (2, x1, x2, x3) := by simp [tick1, dbt, grant, gone, hl]
            have t2 : grant now (2, x1, x2, x3) = false := by simp [tick1, dbt, grant, gone, hl]
            have t3 : gone now (2, x1, x2, x3) = false := by simp [tick1, dbt, grant, gone, hl]
            rw [t1, t2] at HS1
            rw [t3] at HS2
            rw [t1] at HS3
            clear t1 t2 t3
            have R1 := hid (HS1.out.trans (rfl : _ = G))
            have R2 := hid (HS2.out.trans (rfl : _ = A))
            have hlI : ¬ x3 < now := hl
            have hlD : decide ((x3 : Int) < (now : Int)) = false := decide_eq_false (by omega)
            have HTB := hid (HT.out.below HBB.out)
            have b1 : wB.cell? ⟨wr.heap.size, 1, none⟩ = some (.int .u32 (x1 : Int)) := (cell_of_row _ _ _ _ _ _ HBX.out).trans rfl
            go_wp2_with (first | (at_builtin; (refine appsw (by rfl) 28 49 (.tmp 62) (.tmp 64) rfl w.heap.size 4 16 _ Try.underlying28 infoR rfl (by decide) (.slice ao O.length co) _ O.length 1 (O.length + 1) (ncels O) (ncel (2, x1, x2, x3)) rfl rfl (HTB.out.alloc _).ho (SrcC.lit _ _ _ 1 (ncel (2, x1, x2, x3)) rfl) rfl (by intro u hu; simp [ncel] at hu; rcases hu with rfl | rfl | rfl | rfl <;> rfl) rfl (by omega) (by omega) (by simp; omega) ?_); intro ad9 cp9 w9 hoA hgA; have HF := hid ((HTB.out.alloc _).addO (2, x1, x2, x3) hoA hgA); clear hoA hgA) | fail)
            go_roundw
            case rel => exact ⟨k + 1, hlt, by go_num, by rw [HS3.out, R1.out, R2.out]; exact HF.out⟩
            case measure => simp [intOf]; omega
        · obtain rfl : x0 = 0 := by omega
          have b0 : wB.cell? ⟨wr.heap.size, 0, none⟩ = some (.int .u8 0) := b0
          have t1 : tick1 now (0, x1, x2, x3) = (0, x1, x2, x3) := by simp [tick1, dbt, grant, gone]
          have t2 : grant now (0, x1, x2, x3) = false := by simp [tick1, dbt, grant, gone]
          have t3 : gone now (0, x1, x2, x3) = false := by simp [tick1, dbt, grant, gone]
          rw [t1, t2] at HS1
          rw [t3] at HS2
          rw [t1] at HS3
          clear t1 t2 t3
          have R1 := hid (HS1.out.trans (rfl : _ = G))
          have R2 := hid (HS2.out.trans (rfl : _ = A))
          have HTB := hid (HT.out.below HBB.out)
          have b1 : wB.cell? ⟨wr.heap.size, 1, none⟩ = some (.int .u32 (x1 : Int)) := (cell_of_row _ _ _ _ _ _ HBX.out).trans rfl
          go_wp2_with (first | (at_builtin; (refine appsw (by rfl) 28 49 (.tmp 62) (.tmp 64) rfl w.heap.size 4 16 _ Try.underlying28 infoR rfl (by decide) (.slice ao O.length co) _ O.length 1 (O.length + 1) (ncels O) (ncel (0, x1, x2, x3)) rfl rfl (HTB.out.alloc _).ho (SrcC.lit _ _ _ 1 (ncel (0, x1, x2, x3)) rfl) rfl (by intro u hu; simp [ncel] at hu; rcases hu with rfl | rfl | rfl | rfl <;> rfl) rfl (by omega) (by omega) (by simp; omega) ?_); intro ad9 cp9 w9 hoA hgA; have HF := hid ((HTB.out.alloc _).addO (0, x1, x2, x3) hoA hgA); clear hoA hgA) | fail)
          go_roundw
          case rel => exact ⟨k + 1, hlt, by go_num, by rw [HS3.out, R1.out, R2.out]; exact HF.out⟩
          case measure => simp [intOf]; omega
    · have e : k = n := by omega
      have hki : ¬ (k : Int) < (n : Int) := by omega
      have h7 : ∀ O G A, O = (ticks now l).take k → G = grants now l k → A = aways now l k → RkAt w.heap.size w wr (.slice ao ((ticks now l).take k).length co) (.slice ag (grants now l k).length cg) (.slice aa (aways now l k).length ca) O G A := by rintro _ _ _ rfl rfl rfl; exact hT
      have HF := hid (h7 (ticks now l) (grants now l n) (aways now l n) (by rw [e]; exact HALL.out.symm) (by rw [e]) (by rw [e]))
      clear h7
      clear hlt e hT
      go_wp2_with fail
      go_ret3
      have hF := HF.out
      rw [List.length_take] at hF
      exact ⟨_, _, _, rfl, hF⟩

end Go.Proofs.Ytljnkebmdegcpaa
