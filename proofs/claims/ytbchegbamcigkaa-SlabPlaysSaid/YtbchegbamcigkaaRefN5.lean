/-
  Layer 5: the document's New.
-/
import Derived.Test.YtbchegbamcigkaaRefF5
namespace Go.Proofs.Ytbchegbamcigkaa
open Go.RowKit

theorem infoBT : (Try.prog.info? 31).map (fun i => (i.zero, i.size, i.bytes)) = some (some (.slice none 0 0), 1, 24) := by kernel_rfl

theorem run_appb (w : World) (ty : TypeId) (base : Nat) (v : Value) (xs : List Value) (a : Addr) (c : Nat) (y : Value) (hown : w.ownsRow base 31 1 v xs.length xs) (hc : w.cell? (a.add 0) = some y) (hone : y.oneCell' = true)
    (hlen : xs.length ≤ 4000000) (hbase : base ≤ w.heap.size) :
    ∃ v' w', (Builtin.append_ #[48, 48] ty #[v, .slice (some a) 1 c]).run Try.prog w = .ok v' w' ∧ w'.ownsRow base 31 1 v' (xs ++ [y]).length (xs ++ [y]) ∧ w.grownBy w' v.ownBlock := by
  obtain ⟨i, hi, hz0, hz1, hz2⟩ := info_parts infoBT
  obtain ⟨v', w', hr, r1, r2, _⟩ := run_append_own (P := Try.prog) w base 48 ty 31 i (.slice none 0 0) 1 24 Try.underlying48 hi hz0 hz1 hz2 rfl (by decide) v xs.length _ hown a 1 c [y] rfl (fun j u hj => by
    have hj0 : j = 0 := by
      rcases Nat.lt_or_ge j 1 with h | h
      · omega
      · rw [List.getElem?_eq_none (by simpa using h)] at hj; cases hj
    subst hj0
    simp at hj
    rw [hc, hj]) (fun u hu => by rw [List.mem_singleton.1 hu]; exact hone) (by unfold maxLen; omega) (by omega) hbase
  exact ⟨v', w', hr, by rw [List.length_append]; exact r1, r2⟩

theorem appbst {w : World} {ops : Array Oper} {o : Oper} {a : Act} {K : Act → World → Prop} {Q : Exit → Act → World → Prop} {E : Prop} (hw : Region.wanted o (yielded ops a.tmps) = true) (s x : Operand)
    (ho : o.op = .call { callee := .builtin .append, args := #[s, x], argTypes := #[48, 48] })
    (base : Nat) (v : Value) (xs : List Value) (ad : Addr) (c : Nat) (y : Value) (hs : a.eval s = v) (hx : a.eval x = .slice (some ad) 1 c) (hown : w.ownsRow base 31 1 v xs.length xs) (hc : w.cell? (ad.add 0) = some y) (hone : y.oneCell' = true)
    (hlen : xs.length ≤ 4000000) (hbase : base ≤ w.heap.size)
    (h : ∀ v' w', w'.ownsRow base 31 1 v' (xs ++ [y]).length (xs ++ [y]) → w.grownBy w' v.ownBlock → K (a.put o.dst v') w') : if Region.wanted o (yielded ops a.tmps) = true then Oper.wp Try.prog o a w K Q else E := by
  rw [if_pos hw]
  obtain ⟨v', w', hrun, h1, h2⟩ := run_appb w o.type base v xs ad c y hown hc hone hlen hbase
  unfold Oper.wp
  simp [execOp, ho, resolve, invoke, builtin, hs, hx, hrun, Result.andThen]
  exact h v' w' h1 h2

theorem Below.setCell'' {B : Nat} {w : World} (g : Nat) (hg : B ≤ g) (j : Nat) (v : Value) : Below B w (w.setCell ⟨g, j, none⟩ v) :=
  ⟨rfl, rfl, rfl, by simp [World.setCell], fun k hk => Below.heap_setCell _ _ _ _ (by show k ≠ g; omega)⟩

theorem owns_sl {w : World} {base : Nat} {e : TypeId} {size : Nat} {v : Value} {n : Nat} {xs : List Value} (h : w.ownsRow base e size v n xs) : ∃ a m c, v = .slice a m c := owns_slice h

theorem refnew_no (n : Int) (w : World) (h : n < 1 ∨ 4096 < n) :
    Calls Try.prog 16 #[.int .i64 n] w fun e w' => e = .returned (.tuple #[.pointer none, .int .i64 1]) ∧ w = w' := by
  by_cases h1 : n < 1
  · go_enter Try.func16, Try.ntmps16
    go_wp2
    go_ret2
    exact ⟨rfl, rfl⟩
  · have h2 : 4096 < n := by omega
    have h3 : 1 ≤ n := by omega
    go_enter Try.func16, Try.ntmps16
    go_wp2
    go_ret2
    exact ⟨rfl, rfl⟩

theorem mk128 (w : World) : (Instr.makeSlice 31 (.int .i64 128) (.int .i64 128)).run Try.prog w = .ok (.slice (some ⟨w.heap.size, 0, none⟩) 128 128) (w.alloc (.cells ((zeros 128).map bv).toArray 5)) := by
  obtain ⟨i, hi, hz0, hz1, hz2⟩ := info_parts Try.infoU8
  have := run_makeSlice (P := Try.prog) (w := w) 31 5 i _ Try.underlying31 hi hz0 .i64 .i64 128 128 (by omega) (Int.le_refl _) (by rw [hz1]; simp) (by rw [hz2]; omega) (by omega)
  rw [this, hz1]
  have e : madeCells (Value.int .u8 0).cells (128 * 1) = ((zeros 128).map bv).toArray := by
    apply Array.ext'
    show (madeCells #[Value.int .u8 0] 128).toList = _
    rw [toList_madeCells_one]
    unfold zeros
    rw [List.map_replicate]
    rfl
  exact congrArg (fun z => Result.ok (Value.slice (some ⟨w.heap.size, 0, none⟩) 128 128) (w.alloc (.cells z 5))) e

theorem sect_zeros (n i : Nat) (hi : i < n) : sect (List.replicate (n * 128) 0) i = zeros 128 := by
  unfold sect zeros
  rw [List.drop_replicate, List.take_replicate]
  congr 1
  omega

set_option maxRecDepth 100000 in
set_option maxHeartbeats 4000000 in
theorem refnew_yes (n : Nat) (w : World) (h1 : 1 ≤ n) (h2 : n ≤ 4096) :
    Calls Try.prog 16 #[.int .i64 (n : Int)] w fun e w' => ∃ rb gd cd, e = .returned (.tuple #[.pointer (some ⟨rb, 0, none⟩), .int .i64 0]) ∧ RefAt w' ⟨w.heap.size, fun g => w.heap.size ≤ g⟩ rb gd cd (.slice none 0 0) (Sl.new n) ∧ Below w.heap.size w w' := by
  have d1 : ¬ (n : Int) < 1 := by omega
  have d2 : ¬ 4096 < (n : Int) := by omega
  go_enter Try.func16, Try.ntmps16
  go_wp2_with fail
  go_loopw [14] (fun i' wr => ∃ (k : Nat) (dv : Value) (DV : List Value), k ≤ n ∧ i' = .int .i64 k ∧ wr.heap[w.heap.size]? = some (.cells #[dv, .slice none 0 0, .bool false, .int .i64 0, .int .i64 0] 51 (0, 0)) ∧ wr.ownsRow w.heap.size 31 1 dv DV.length DV ∧ DV.length = k ∧ (∀ i, i < k → RowB wr ⟨w.heap.size, fun g => w.heap.size ≤ g⟩ (DV.getD i zv) (zeros 128)) ∧ w.heap.size < wr.heap.size ∧ Below w.heap.size w wr) (fun i' _ => n - (intOf i').toNat)
  case atStart => exact ⟨0, _, [], by omega, rfl, heap_alloc_new w _, World.ownsRow_nil _ _ _ _, rfl, (fun i hi => absurd hi (by omega)), by simp, (Below.refl _ _).alloc (Nat.le_refl _) _⟩
  case round =>
    obtain ⟨k, dv, DV, hk, rfl, hr, hown, hl, hrows, hsw, hB⟩ := hrel
    have HR := hid hr
    have HO := hid hown
    have HRW := hid hrows
    have HB := hid hB
    have HL := hid hl
    obtain ⟨ja, jn, jc, ejv⟩ := owns_sl hown
    subst ejv
    clear hr hown hrows hB hl
    by_cases hlt : k < n
    · have hmk := mk128 wr.drew
      have e0 : wr.cell? ⟨w.heap.size, 0, none⟩ = some (.slice ja jn jc) := (cell_of_row _ _ _ _ _ _ HR.out).trans rfl
      obtain ⟨Z, hZ⟩ : ∃ Z, Z = ((zeros 128).map bv).toArray := ⟨_, rfl⟩
      rw [← hZ] at hmk
      have HZ := hid hZ
      have bA : Below wr.heap.size wr (wr.drew.alloc (.cells Z 5)) := ((Below.refl _ wr).drew).alloc (Nat.le_refl _) _
      have bB : Below wr.heap.size wr ((wr.drew.alloc (.cells Z 5)).alloc (.cells #[.slice (some ⟨wr.heap.size, 0, none⟩) 128 128] 31)) := bA.alloc bA.size _
      have eA : (wr.drew.alloc (.cells Z 5)).cell? ⟨w.heap.size, 0, none⟩ = some (.slice ja jn jc) := (bA.cell (p := ⟨w.heap.size, 0, none⟩) hsw).trans e0
      have eB : ((wr.drew.alloc (.cells Z 5)).alloc (.cells #[.slice (some ⟨wr.heap.size, 0, none⟩) 128 128] 31)).cell? ⟨w.heap.size, 0, none⟩ = some (.slice ja jn jc) := (bB.cell (p := ⟨w.heap.size, 0, none⟩) hsw).trans e0
      have BA := hid bA
      have BB := hid bB
      have HOB := hid (owns_to HO.out (fun q hq => bB.block q (World.ownsRow.lt HO.out q hq).2))
      have HNR := hid (show (Value.slice ja jn jc).ownBlock ≠ some w.heap.size from fun e => by
        obtain ⟨cur, hc⟩ := owns_type HO.out _ e
        rw [HR.out] at hc; simp only [Option.some.injEq, Obj.cells.injEq] at hc; exact absurd hc.2.1 (by decide))
      have hszA : (wr.drew.alloc (.cells Z 5)).heap.size = wr.heap.size + 1 := by show (wr.alloc _).heap.size = _; simp
      have HCB := hid (show ((wr.drew.alloc (.cells Z 5)).alloc (.cells #[.slice (some ⟨wr.heap.size, 0, none⟩) 128 128] 31)).cell? ((⟨wr.heap.size + 1, 0, none⟩ : Addr).add 0) = some (.slice (some ⟨wr.heap.size, 0, none⟩) 128 128) by
        have := heap_alloc_new (wr.drew.alloc (.cells Z 5)) (.cells #[.slice (some ⟨wr.heap.size, 0, none⟩) 128 128] 31)
        rw [hszA] at this
        rw [Addr.add_lit, cell_of_row _ _ _ _ _ _ this]
        rfl)
      have hlm : DV.length ≤ 4000000 := by have := HL.out; omega
      have hbm : w.heap.size ≤ ((wr.drew.alloc (.cells Z 5)).alloc (.cells #[.slice (some ⟨wr.heap.size, 0, none⟩) 128 128] 31)).heap.size := by have := bB.size; omega
      have HBM := hid hbm
      clear hZ bA bB hszA hbm
      go_wp2_with fail
      go_region_law (refine appbst (by rfl) (.tmp 20) (.tmp 22) rfl w.heap.size (.slice ja jn jc) DV ⟨wr.heap.size + 1, 0, none⟩ 1 (.slice (some ⟨wr.heap.size, 0, none⟩) 128 128) rfl rfl HOB.out HCB.out rfl hlm HBM.out ?_; intro v5 w5 ho5 hg5; obtain ⟨va, vn, vc, ev⟩ := owns_sl ho5; subst ev; have HO5 := hid ho5; have HG5 := hid hg5; have hrb5 := (hg5.block w.heap.size (Nat.lt_of_lt_of_le hsw BB.out.size) (fun e => HNR.out e.symm)).trans ((BB.out.block w.heap.size hsw).trans HR.out); have HRB5 := hid hrb5; have e5 : w5.cell? ⟨w.heap.size, 0, none⟩ = some (.slice ja jn jc) := (cell_of_row _ _ _ _ _ _ hrb5).trans rfl; have f5 : w5.frozen? ⟨w.heap.size, 0, none⟩ = false := frozen_of_row _ _ _ _ _ hrb5; clear ho5 hg5 hrb5)
      all_goals
        have hk5 := keeps_set w5 w.heap.size 0 (.slice va vn vc)
        have hgr : ∀ g cs, w.heap.size ≤ g → w5.heap[g]? = some (.cells cs 5 (0, 0)) → ¬ g = w.heap.size := fun g cs _ hg e => by
          subst e; rw [HRB5.out] at hg; simp only [Option.some.injEq, Obj.cells.injEq] at hg; exact absurd hg.2.1 (by decide)
        have hg2 : ∀ g cs, w.heap.size ≤ g → ((wr.drew.alloc (.cells Z 5)).alloc (.cells #[.slice (some ⟨wr.heap.size, 0, none⟩) 128 128] 31)).heap[g]? = some (.cells cs 5 (0, 0)) → ¬ (Value.slice ja jn jc).ownBlock = some g := fun g cs _ hg e => by
          obtain ⟨cur, hc⟩ := owns_type HOB.out _ e
          rw [hg] at hc; simp only [Option.some.injEq, Obj.cells.injEq] at hc; exact absurd hc.2.1 (by decide)
        have hnew0 : RowB (wr.drew.alloc (.cells Z 5)) ⟨w.heap.size, fun g => w.heap.size ≤ g⟩ (.slice (some ⟨wr.heap.size, 0, none⟩) 128 128) (zeros 128) := by
          rw [HZ.out]
          exact ⟨rd_row (zeros_length 128).symm (heap_alloc_new wr.drew _) (by rw [zeros_length]; unfold maxLen; omega), wr.heap.size, 128, _, by rw [zeros_length], by omega, heap_alloc_new wr.drew _⟩
        have hnew := ((hnew0.below ((Below.refl _ (wr.drew.alloc (.cells Z 5))).alloc (Nat.le_refl _) (.cells #[.slice (some ⟨wr.heap.size, 0, none⟩) 128 128] 31))).keeps (Keeps.of_grown HG5.out) hg2).keeps hk5 hgr
        have hb5 : Below w.heap.size w w5 := (HB.out.trans (BB.out.mono (by omega))).grown HG5.out HBM.out (fun q hq => (World.ownsRow.lt HO.out q hq).1)
        have hown5 := owns_to HO5.out (w' := w5.setCell ⟨w.heap.size, 0, none⟩ (.slice va vn vc)) (fun q hq => hk5.block q (World.ownsRow.lt HO5.out q hq).2 (fun e => by
          obtain ⟨cur, hc⟩ := owns_type HO5.out _ hq
          subst e; rw [HRB5.out] at hc; simp only [Option.some.injEq, Obj.cells.injEq] at hc; exact absurd hc.2.1 (by decide)))
        have hrow5 : ∀ i, i < k + 1 → RowB (w5.setCell ⟨w.heap.size, 0, none⟩ (.slice va vn vc)) ⟨w.heap.size, fun g => w.heap.size ≤ g⟩ ((DV ++ [Value.slice (some ⟨wr.heap.size, 0, none⟩) 128 128]).getD i zv) (zeros 128) := fun i hi => by
          by_cases h3 : i < k
          · rw [getD_left _ _ _ _ (by have := HL.out; omega)]
            exact (((HRW.out i h3).below BB.out).keeps (Keeps.of_grown HG5.out) hg2).keeps hk5 hgr
          · obtain rfl : i = DV.length := by have := HL.out; omega
            rw [getD_last]
            exact hnew
        have hsz5 : w.heap.size < (w5.setCell ⟨w.heap.size, 0, none⟩ (.slice va vn vc)).heap.size := Nat.lt_of_lt_of_le (Nat.lt_of_lt_of_le (Nat.lt_of_lt_of_le hsw BB.out.size) HG5.out.size) hk5.size
        have hhead := (heap_setCell_same w5 w.heap.size 0 _ _ (.slice va vn vc) HRB5.out)
        have HH := hid hhead
        have HO6 := hid hown5
        have HR6 := hid hrow5
        have HB6 := hid (hb5.trans (Below.setCell'' (w := w5) w.heap.size (Nat.le_refl _) 0 (.slice va vn vc)))
        have hl6 : (DV ++ [Value.slice (some ⟨wr.heap.size, 0, none⟩) 128 128]).length = k + 1 := by have := HL.out; simp; omega
        have HL6 := hid hl6
        clear hhead hown5 hrow5 hb5 hnew hnew0 hg2 hgr hk5 hl6
        go_wp2
        go_roundw
        case rel => exact ⟨k + 1, .slice va vn vc, _, by omega, by go_num, HH.out.trans (by simp), HO6.out, HL6.out, HR6.out, hsz5, HB6.out⟩
        case measure => simp [intOf]; omega
    · obtain rfl : k = n := by omega
      have hlen := HO.out
      rw [HL.out] at hlen
      obtain ⟨g, cap, ev⟩ : ∃ g c, Value.slice ja jn jc = .slice (some ⟨g, 0, none⟩) k c := by
        rcases hlen.2 with ⟨_, hz⟩ | ⟨g, cap, cur, e, _⟩
        · omega
        · exact ⟨g, cap, e⟩
      simp only [Value.slice.injEq] at ev
      obtain ⟨e1, e2, e3⟩ := ev
      subst e1 e2 e3
      go_wp2
      go_ret2
      refine ⟨_, g, jc, rfl, ⟨HR.out, ⟨DV, ⟨hlen, fun i hi => ?_⟩⟩, ⟨[], World.ownsRow_nil _ _ _ _, rfl, fun i hi => absurd hi (by simp [Sl.new])⟩, Nat.le_refl _, Sl.new_ok jn h1 h2⟩, HB.out⟩
      have : sect (Sl.new jn).done i = zeros 128 := sect_zeros jn i hi
      rw [this]
      exact HRW.out i hi

end Go.Proofs.Ytbchegbamcigkaa
