/-
  The document's matrix: New.
-/
import Derived.Test.YtdongghjchnpbaaRxA
import Derived.Laws.MakeOwn
import Derived.Deep.RegionLaw
namespace Go.Proofs.Ytdongghjchnpbaa
open Go.RowKit Go.Shelf
set_option linter.unusedVariables false

theorem infoRowT : (Try.prog.info? 60).map (fun i => (i.zero, i.size, i.bytes)) = some (some (.slice none 0 0), 1, 24) := by kernel_rfl
theorem infoBoolT : (Try.prog.info? 4).map (fun i => (i.zero, i.size, i.bytes)) = some (some (.bool false), 1, 1) := by kernel_rfl

theorem kset12 (w : World) (b i : Nat) (v : Value) : Keeps (fun k => k = b) w (w.setCell ⟨b, i, none⟩ v) := (Keeps.refl (fun k => k = b) w).setCell (p := ⟨b, i, none⟩) (fun _ => rfl) _

theorem rnew_no (w : World) (r n : Int) (h : r < 1 ∨ 8 < r ∨ n < 1 ∨ 16 < n) :
    Calls Try.prog 11 #[.int .i64 r, .int .i64 n] w fun e w' => e = .returned (.tuple #[.pointer none, .int .i64 1]) ∧ w = w' := by
  by_cases h1 : r < 1
  · have d1 : decide (r < 1) = true := by simpa using h1
    clear h h1
    go_enter Try.func11, Try.ntmps11
    go_wp2
    go_ret2
    exact ⟨rfl, rfl⟩
  have d1 : decide (r < 1) = false := by simpa using h1
  by_cases h2 : 8 < r
  · have d2 : decide (8 < r) = true := by simpa using h2
    clear h h1 h2
    go_enter Try.func11, Try.ntmps11
    go_wp2
    go_ret2
    exact ⟨rfl, rfl⟩
  have d2 : decide (8 < r) = false := by simpa using h2
  by_cases h3 : n < 1
  · have d3 : decide (n < 1) = true := by simpa using h3
    clear h h1 h2 h3
    go_enter Try.func11, Try.ntmps11
    go_wp2
    go_ret2
    exact ⟨rfl, rfl⟩
  have d3 : decide (n < 1) = false := by simpa using h3
  have d4 : decide (16 < n) = true := by simp; omega
  clear h h1 h2 h3
  go_enter Try.func11, Try.ntmps11
  go_wp2
  go_ret2
  exact ⟨rfl, rfl⟩

/-- A row of n free cells. -/
def freeRow (n : Nat) : Array Value := (List.replicate n (Value.int .u32 0)).toArray

theorem mkrow (w : World) (n : Nat) (hn : n ≤ 16) : (Instr.makeSlice 60 (.int .i64 n) (.int .i64 n)).run Try.prog w = .ok (.slice (some ⟨w.heap.size, 0, none⟩) n n) (w.alloc (.cells (freeRow n) 33)) := by
  obtain ⟨i, hi, hz0, hz1, hz2⟩ := info_parts Try.infoU32
  have := run_makeSlice (P := Try.prog) (w := w) 60 33 i _ Try.underlying60 hi hz0 .i64 .i64 n n (by omega) (Int.le_refl _) (by rw [hz1]; simp; omega) (by rw [hz2]; omega) (by omega)
  rw [this, hz1]
  have e : madeCells (Value.int .u32 0).cells ((n : Int).toNat * 1) = freeRow n := by
    apply Array.ext'
    show (madeCells #[Value.int .u32 0] ((n : Int).toNat * 1)).toList = _
    rw [toList_madeCells_one]
    simp [freeRow]
  rw [e]; rfl

theorem getD_mem' {l : List Nat} {i : Nat} (h : i < l.length) : l.getD i 0 ∈ l := by
  rw [List.getD_eq_getElem?_getD, List.getElem?_eq_getElem h]; exact List.getElem_mem _
theorem getD_inj' {l : List Nat} (hn : l.Nodup) {i j : Nat} (hi : i < l.length) (hj : j < l.length) (e : l.getD i 0 = l.getD j 0) : i = j := by
  simp only [List.getD_eq_getElem?_getD, List.getElem?_eq_getElem hi, List.getElem?_eq_getElem hj, Option.getD_some] at e
  have hp := List.pairwise_iff_getElem.1 hn
  rcases Nat.lt_trichotomy i j with h | h | h
  · exact absurd e (hp i j hi hj h)
  · exact h
  · exact absurd e.symm (hp j i hj hi h)

/-- The rows that were made so far. -/
def rowVals (n : Nat) (gs : List Nat) : List Value := gs.map fun g => .slice (some ⟨g, 0, none⟩) n n

structure Rows12 (w : World) (lo n : Nat) (gs : List Nat) : Prop where
  nd : gs.Nodup
  low : ∀ g ∈ gs, lo ≤ g
  at_ : ∀ g ∈ gs, w.heap[g]? = some (.cells (freeRow n) 33 (0, 0))

theorem Rows12.kt {w w' : World} {lo n B : Nat} {gs : List Nat} {ts : List TypeId} (h : Rows12 w lo n gs) (hk : KT ts B w w') (ht : 33 ∉ ts) : Rows12 w' lo n gs := ⟨h.nd, h.low, fun g hg => hk.block (h.at_ g hg) ht⟩
theorem Rows12.below {w w' : World} {lo n : Nat} {gs : List Nat} (h : Rows12 w lo n gs) (hb : Below w.heap.size w w') : Rows12 w' lo n gs := ⟨h.nd, h.low, fun g hg => (hb.block g (Array.getElem?_eq_some_iff.1 (h.at_ g hg)).1).trans (h.at_ g hg)⟩

theorem rowVals_one (n : Nat) (gs : List Nat) : ∀ y ∈ rowVals n gs, y.oneCell' = true := by
  intro y hy
  obtain ⟨_, _, rfl⟩ := List.mem_map.1 hy
  rfl

set_option maxRecDepth 100000 in
set_option maxHeartbeats 8000000 in
theorem rnew_yes (w : World) (r n : Nat) (h1 : 1 ≤ r) (h2 : r ≤ 8) (h3 : 1 ≤ n) (h4 : n ≤ 16) :
    Calls Try.prog 11 #[.int .i64 r, .int .i64 n] w fun e w' => ∃ G : Geo, e = .returned (.tuple #[.pointer (some ⟨G.x, 0, none⟩), .int .i64 0]) ∧ RxAt w' w.heap.size G (mx0 r n) ∧ Below w.heap.size w w' := by
  have d1 : decide ((r : Int) < 1) = false := by simp; omega
  have d2 : decide ((8 : Int) < (r : Int)) = false := by simp; omega
  have d3 : decide ((n : Int) < 1) = false := by simp; omega
  have d4 : decide ((16 : Int) < (n : Int)) = false := by simp; omega
  go_enter Try.func11, Try.ntmps11
  go_wp2_with fail
  go_loopw [24] (fun i' wr => ∃ (k : Nat) (dv : Value) (gs : List Nat), k ≤ r ∧ i' = .int .i64 k ∧ gs.length = k ∧ wr.heap[w.heap.size]? = some (.cells #[dv, .slice none 0 0] 49 (0, 0)) ∧ wr.ownsRow w.heap.size 60 1 dv k (rowVals n gs) ∧ Rows12 wr w.heap.size n gs ∧ Below w.heap.size w wr) (fun i' _ => r - (intOf i').toNat)
  case atStart => exact ⟨0, _, [], by omega, rfl, rfl, heap_alloc_new w _, World.ownsRow_nil _ _ _ _, ⟨List.nodup_nil, (fun g hg => by cases hg), (fun g hg => by cases hg)⟩, (Below.refl _ _).alloc (Nat.le_refl _) _⟩
  case round =>
    obtain ⟨k, dv, gs, hk, rfl, hgl, hx, hown, hrows, hB⟩ := hrel
    have HX := hid hx
    have HO := hid hown
    have HRW := hid hrows
    have HB := hid hB
    have HGL := hid hgl
    have hsx : w.heap.size < wr.heap.size := (Array.getElem?_eq_some_iff.1 hx).1
    obtain ⟨ja, jc, rfl, hj1, hj2⟩ := owns_slice hown
    clear hx hown hrows hB hgl
    by_cases hlt : k < r
    · have hki : (k : Int) < (r : Int) := by omega
      have hmk := mkrow wr.drew n h4
      have e0 : wr.cell? ⟨w.heap.size, 0, none⟩ = some (.slice ja k jc) := (cell_of_row _ _ _ _ _ _ HX.out).trans rfl
      generalize hZ : freeRow n = Z at hmk
      have HZ := hid hZ
      have bA : Below wr.heap.size wr (wr.drew.alloc (.cells Z 33)) := ((Below.refl _ wr).drew).alloc (Nat.le_refl _) _
      have bB : Below wr.heap.size wr ((wr.drew.alloc (.cells Z 33)).alloc (.cells #[.slice (some ⟨wr.heap.size, 0, none⟩) n n] 60)) := bA.alloc bA.size _
      have eA : (wr.drew.alloc (.cells Z 33)).cell? ⟨w.heap.size, 0, none⟩ = some (.slice ja k jc) := (bA.cell (p := ⟨w.heap.size, 0, none⟩) hsx).trans e0
      have eB : ((wr.drew.alloc (.cells Z 33)).alloc (.cells #[.slice (some ⟨wr.heap.size, 0, none⟩) n n] 60)).cell? ⟨w.heap.size, 0, none⟩ = some (.slice ja k jc) := (bB.cell (p := ⟨w.heap.size, 0, none⟩) hsx).trans e0
      have hszA : (wr.drew.alloc (.cells Z 33)).heap.size = wr.heap.size + 1 := by show (wr.alloc _).heap.size = _; simp
      have hsrc : SrcC ((wr.drew.alloc (.cells Z 33)).alloc (.cells #[.slice (some ⟨wr.heap.size, 0, none⟩) n n] 60)) (.slice (some ⟨wr.heap.size + 1, 0, none⟩) 1 1) 1 (rowVals n [wr.heap.size]) := by
        have := SrcC.lit (wr.drew.alloc (.cells Z 33)) #[.slice (some ⟨wr.heap.size, 0, none⟩) n n] 60 1 (rowVals n [wr.heap.size]) rfl
        rwa [hszA] at this
      have hrowsB : Rows12 ((wr.drew.alloc (.cells Z 33)).alloc (.cells #[.slice (some ⟨wr.heap.size, 0, none⟩) n n] 60)) w.heap.size n (gs ++ [wr.heap.size]) := by
        have hr0 := HRW.out.below bB
        refine ⟨?_, ?_, ?_⟩
        · refine List.nodup_append.2 ⟨hr0.nd, by simp, fun a ha b hb => ?_⟩
          rw [List.mem_singleton] at hb
          have := (Array.getElem?_eq_some_iff.1 (HRW.out.at_ a ha)).1
          omega
        · intro g hg
          rcases List.mem_append.1 hg with hg | hg
          · exact hr0.low g hg
          · rw [List.mem_singleton] at hg; omega
        · intro g hg
          rcases List.mem_append.1 hg with hg | hg
          · exact hr0.at_ g hg
          · rw [List.mem_singleton] at hg
            subst hg
            rw [HZ.out, Below.heap_alloc _ _ _ (by omega)]
            exact heap_alloc_new wr.drew _
      have HSRC := hid hsrc
      have HRB := hid hrowsB
      have BB := hid bB
      have HOB := hid (owns_below HO.out bB)
      have hxB : ((wr.drew.alloc (.cells Z 33)).alloc (.cells #[.slice (some ⟨wr.heap.size, 0, none⟩) n n] 60)).heap[w.heap.size]? = some (.cells #[.slice ja k jc, .slice none 0 0] 49 (0, 0)) := (bB.block w.heap.size hsx).trans HX.out
      have HXB := hid hxB
      have HNR := hid (show (Value.slice ja k jc).ownBlock ≠ some w.heap.size from fun e => by
        obtain ⟨cur, hc⟩ := owns_ty HO.out _ e
        rw [HX.out] at hc; simp at hc)
      have hbm : w.heap.size ≤ ((wr.drew.alloc (.cells Z 33)).alloc (.cells #[.slice (some ⟨wr.heap.size, 0, none⟩) n n] 60)).heap.size := by have := bB.size; omega
      have HBM := hid hbm
      have hsB : wr.heap.size ≤ ((wr.drew.alloc (.cells Z 33)).alloc (.cells #[.slice (some ⟨wr.heap.size, 0, none⟩) n n] 60)).heap.size := bB.size
      have HSB := hid hsB
      clear hZ bA bB hszA hbm hsrc hrowsB hxB hsB
      go_wp2_with fail
      go_region_law (refine appsst (by rfl) 46 60 (.tmp 30) (.tmp 33) rfl w.heap.size 1 24 _ Try.underlying46 infoRowT rfl (by decide) (.slice ja k jc) (.slice (some ⟨wr.heap.size + 1, 0, none⟩) 1 1) k 1 (k + 1) (rowVals n gs) (rowVals n [wr.heap.size]) rfl rfl HOB.out HSRC.out rfl (rowVals_one _ _) rfl (by omega) (by omega) HBM.out ?_; intro ad5 cp5 w5 ho5 hg5; have HO5 := hid ho5; have HG5 := hid hg5; have hrb5 := (hg5.block w.heap.size (Nat.lt_of_lt_of_le hsx HSB.out) (fun e => HNR.out e.symm)).trans HXB.out; have HRB5 := hid hrb5; have e5 : w5.cell? ⟨w.heap.size, 0, none⟩ = some (.slice ja k jc) := (cell_of_row _ _ _ _ _ _ hrb5).trans rfl; have f5 : w5.frozen? ⟨w.heap.size, 0, none⟩ = false := frozen_of_row _ _ _ _ _ hrb5; clear ho5 hg5 hrb5)
      all_goals
        have hk5 := kset12 w5 w.heap.size 0 (.slice ad5 (k + 1) cp5)
        have kt1 : KT [60, 49] w.heap.size ((wr.drew.alloc (.cells Z 33)).alloc (.cells #[.slice (some ⟨wr.heap.size, 0, none⟩) n n] 60)) w5 := KT.of_keeps (Keeps.of_grown HG5.out) (fun q _ e => by
          obtain ⟨cur, hc⟩ := owns_ty HOB.out q e
          exact ⟨(World.ownsRow.lt HOB.out q e).1, _, _, _, hc, by simp⟩) HBM.out
        have hs5 := HG5.out.size
        have kt2 : KT [60, 49] w.heap.size w5 (w5.setCell ⟨w.heap.size, 0, none⟩ (.slice ad5 (k + 1) cp5)) := KT.of_keeps hk5 (fun q _ e => by
          subst e
          exact ⟨Nat.le_refl _, _, _, _, HRB5.out, by simp⟩) (Nat.le_trans HBM.out HG5.out.size)
        have hrow6 := HRB.out.kt (kt1.trans kt2) (by decide)
        have hown6 := owns_by HO5.out (w' := w5.setCell ⟨w.heap.size, 0, none⟩ (.slice ad5 (k + 1) cp5)) (fun q hq => hk5.block q (World.ownsRow.lt HO5.out q hq).2 (fun e => by
          obtain ⟨cur, hc⟩ := owns_ty HO5.out _ hq
          subst e; rw [HRB5.out] at hc; simp at hc))
        have hx6 := heap_setCell_arr w5 w.heap.size 0 _ _ _ (.slice ad5 (k + 1) cp5) HRB5.out
        have hb6 : Below w.heap.size w (w5.setCell ⟨w.heap.size, 0, none⟩ (.slice ad5 (k + 1) cp5)) := (HB.out.trans (BB.out.mono (by omega))).trans (kt1.trans kt2).below
        have HX6 := hid hx6
        have HO6 := hid hown6
        have HR6 := hid hrow6
        have HB6 := hid hb6
        clear hx6 hown6 hrow6 hb6 kt1 kt2 hk5 hs5
        go_wp2
        go_roundw
        case rel => exact ⟨k + 1, .slice ad5 (k + 1) cp5, gs ++ [wr.heap.size], by omega, by go_num, by rw [List.length_append, HGL.out]; rfl, HX6.out.trans (by simp), (by
          have := HO6.out
          rwa [show rowVals n gs ++ rowVals n [wr.heap.size] = rowVals n (gs ++ [wr.heap.size]) by simp [rowVals]] at this), HR6.out, HB6.out⟩
        case measure => simp [intOf]; omega
    · have e : k = r := by omega
      subst e
      have hki : ¬ (k : Int) < (k : Int) := by omega
      obtain ⟨bc, cc, hsl⟩ : ∃ g c, Value.slice ja k jc = .slice (some ⟨g, 0, none⟩) k c := by
        rcases owns_shape HO.out with ⟨_, hz⟩ | ⟨g, cap, e, _⟩
        · omega
        · exact ⟨g, cap, e⟩
      simp only [Value.slice.injEq] at hsl
      obtain ⟨rfl, -, rfl⟩ := hsl
      obtain ⟨wq, hwq⟩ : ∃ wq, wq = wr := ⟨_, rfl⟩
      subst hwq
      go_wp2_with fail
      go_loopw [39] (fun i' wr => ∃ (q : Nat) (dv : Value), q ≤ n ∧ i' = .int .i64 q ∧ wr.heap[w.heap.size]? = some (.cells #[.slice (some ⟨bc, 0, none⟩) k jc, dv] 49 (0, 0)) ∧ wr.ownsRow w.heap.size 60 1 (.slice (some ⟨bc, 0, none⟩) k jc) k (rowVals n gs) ∧ wr.ownsRow w.heap.size 4 1 dv q (List.replicate q (.bool true)) ∧ Rows12 wr w.heap.size n gs ∧ Below w.heap.size w wr) (fun i' _ => n - (intOf i').toNat)
      case atStart => exact ⟨0, _, by omega, rfl, HX.out, HO.out, World.ownsRow_nil _ _ _ _, HRW.out, HB.out⟩
      case round =>
        obtain ⟨q, dv, hq, rfl, hx, hoc, hown, hrows, hB⟩ := hrel
        have HX := hid hx
        have HC := hid hoc
        have HOU := hid hown
        have HRW := hid hrows
        have HB := hid hB
        have hsx : w.heap.size < wr.heap.size := (Array.getElem?_eq_some_iff.1 hx).1
        obtain ⟨ua, uc, rfl, hu1, hu2⟩ := owns_slice hown
        clear hx hoc hown hrows hB
        by_cases hlt : q < n
        · have hqi : (q : Int) < (n : Int) := by omega
          have e0 : wr.cell? ⟨w.heap.size, 1, none⟩ = some (.slice ua q uc) := (cell_of_row _ _ _ _ _ _ HX.out).trans rfl
          have bA : Below wr.heap.size wr (wr.alloc (.cells #[.bool true] 4)) := (Below.refl _ wr).alloc (Nat.le_refl _) _
          have BA := hid bA
          have hsrc := hid (SrcC.lit wr #[.bool true] 4 1 [.bool true] rfl)
          have hof := hid (owns_below HOU.out bA)
          have HXA := hid ((bA.block w.heap.size hsx).trans HX.out)
          have HCA := hid (owns_below HC.out bA)
          have HRA := hid (HRW.out.below bA)
          have HNR := hid (show (Value.slice ua q uc).ownBlock ≠ some w.heap.size from fun e => by
            obtain ⟨cur, hc⟩ := owns_ty HOU.out _ e
            rw [HX.out] at hc; simp at hc)
          clear bA
          go_wp2_with (at_builtin; (refine appsw (by rfl) 47 4 (.tmp 45) (.tmp 46) rfl w.heap.size 1 1 _ Try.underlying47 infoBoolT rfl (by decide) _ _ q 1 (q + 1) _ _ rfl rfl hof.out hsrc.out rfl (by intro y hy; rw [List.mem_singleton] at hy; subst hy; rfl) rfl (by omega) (by omega) (by simp; omega) ?_); intro ad5 cp5 w5 ho5 hg5; have HO5 := hid ho5; have HG5 := hid hg5; have hrb5 := (hg5.block w.heap.size (Nat.lt_of_lt_of_le hsx (by simp)) (fun e => HNR.out e.symm)).trans HXA.out; have HRB5 := hid hrb5; have f5 : w5.frozen? ⟨w.heap.size, 1, none⟩ = false := frozen_of_row _ _ _ _ _ hrb5; have c5 : w5.cell? ⟨w.heap.size, 1, none⟩ = some (.slice ua q uc) := (cell_of_row _ _ _ _ _ _ hrb5).trans rfl; clear ho5 hg5 hrb5)
          have hk5 := kset12 w5 w.heap.size 1 (.slice ad5 (q + 1) cp5)
          have hbm : w.heap.size ≤ (wr.alloc (.cells #[.bool true] 4)).heap.size := by simp; omega
          have kt1 : KT [4, 49] w.heap.size (wr.alloc (.cells #[.bool true] 4)) w5 := KT.of_keeps (Keeps.of_grown HG5.out) (fun p _ e => by
            obtain ⟨cur, hc⟩ := owns_ty hof.out p e
            exact ⟨(World.ownsRow.lt hof.out p e).1, _, _, _, hc, by simp⟩) hbm
          have hs5 := HG5.out.size
          have kt2 : KT [4, 49] w.heap.size w5 (w5.setCell ⟨w.heap.size, 1, none⟩ (.slice ad5 (q + 1) cp5)) := KT.of_keeps hk5 (fun p _ e => by
            subst e
            exact ⟨Nat.le_refl _, _, _, _, HRB5.out, by simp⟩) (by omega)
          have hrow6 := HRA.out.kt (kt1.trans kt2) (by decide)
          have hoc6 := owns_kt HCA.out (kt1.trans kt2) (by decide)
          have hown6 := owns_by HO5.out (w' := w5.setCell ⟨w.heap.size, 1, none⟩ (.slice ad5 (q + 1) cp5)) (fun p hp => hk5.block p (World.ownsRow.lt HO5.out p hp).2 (fun e => by
            obtain ⟨cur, hc⟩ := owns_ty HO5.out _ hp
            subst e; rw [HRB5.out] at hc; simp at hc))
          have hx6 := heap_setCell_arr w5 w.heap.size 1 _ _ _ (.slice ad5 (q + 1) cp5) HRB5.out
          have hb6 : Below w.heap.size w (w5.setCell ⟨w.heap.size, 1, none⟩ (.slice ad5 (q + 1) cp5)) := (HB.out.trans (BA.out.mono (by omega))).trans (kt1.trans kt2).below
          have HX6 := hid hx6
          have HO6 := hid hown6
          have HC6 := hid hoc6
          have HR6 := hid hrow6
          have HB6 := hid hb6
          clear hx6 hown6 hoc6 hrow6 hb6 kt1 kt2 hk5 hs5 hbm
          go_wp2
          go_roundw
          case rel => exact ⟨q + 1, .slice ad5 (q + 1) cp5, by omega, by go_num, HX6.out.trans (by simp), HC6.out, (by
            have := HO6.out
            rwa [show List.replicate q (Value.bool true) ++ [Value.bool true] = List.replicate (q + 1) (.bool true) by rw [List.replicate_succ']] at this), HR6.out, HB6.out⟩
          case measure => simp [intOf]; omega
        · have e : q = n := by omega
          subst e
          have hqi : ¬ (q : Int) < (q : Int) := by omega
          obtain ⟨bu, cu, hsl⟩ : ∃ g c, Value.slice ua q uc = .slice (some ⟨g, 0, none⟩) q c := by
            rcases owns_shape HOU.out with ⟨_, hz⟩ | ⟨g, cap, e, _⟩
            · omega
            · exact ⟨g, cap, e⟩
          simp only [Value.slice.injEq] at hsl
          obtain ⟨rfl, -, rfl⟩ := hsl
          obtain ⟨z1, z2, z3, z4, z5, z6, z7⟩ := owns_setRow HC.out
          obtain ⟨y1, y2, y3, y4, y5, y6, y7⟩ := owns_setRow HOU.out
          have hgl := HGL.out
          have HQ := hid (show RxAt wr w.heap.size ⟨w.heap.size, bc, jc, bu, uc, fun i => gs.getD i 0, fun _ => q⟩ (mx0 k q) by
            refine ⟨HX.out, ⟨z1, z2, fun i hi => ?_⟩, fun i hi => ?_, ⟨y1, y2, fun i hi => ?_⟩, fun i j hi hj e => ?_, Nat.le_refl _, z7, y7, fun i hi => ?_, z5, ?_, y5, ?_, fun _ _ => ⟨Nat.le_refl _, by show q ≤ _; omega⟩, h1, h2, h3, h4, fun _ => by show (0 : Nat) < 4294967296; omega⟩
            · have hi' : i < k := hi
              have h5 : (z1.toList.take (k * 1))[i]? = some (.slice (some ⟨gs.getD i 0, 0, none⟩) q q) := by
                rw [z4]; unfold rowVals
                rw [List.getElem?_map, List.getD_eq_getElem?_getD, List.getElem?_eq_getElem (by omega)]; rfl
              rw [List.getElem?_take] at h5
              split at h5
              · rwa [Array.getElem?_toList] at h5
              · cases h5
            · have hi' : i < k := hi
              refine ⟨freeRow q, HRW.out.at_ _ (getD_mem' (by omega)), fun p hp => ?_⟩
              have hp' : p < q := hp
              unfold freeRow
              rw [List.getElem?_toArray, List.getElem?_replicate, if_pos hp']
              rfl
            · have hi' : i < q := hi
              have h5 : (y1.toList.take (q * 1))[i]? = some (.bool true) := by
                rw [y4, List.getElem?_replicate, if_pos hi']
              rw [List.getElem?_take] at h5
              split at h5
              · rw [Array.getElem?_toList] at h5; rw [h5]; rfl
              · cases h5
            · have hi' : i < k := hi
              have hj' : j < k := hj
              exact getD_inj' HRW.out.nd (by omega) (by omega) e
            · have hi' : i < k := hi
              exact HRW.out.low _ (getD_mem' (by omega))
            · unfold maxLen at z6; exact z6
            · unfold maxLen at y6; exact y6)
          clear z1 z2 z3 z4 z5 z6 z7 y1 y2 y3 y4 y5 y6 y7
          go_wp2
          go_ret2
          exact ⟨_, rfl, HQ.out, HB.out⟩

end Go.Proofs.Ytdongghjchnpbaa
