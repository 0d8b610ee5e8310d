/-
  slices.Values, AppendSeq, Collect, Sorted at []int.
-/
import Derived.Test.YtecojmpiaaehlaaPlSort
import Derived.Test.YtecojmpiaaehlaaKeepT
import Derived.RangeFuncNested
import Derived.RangeFuncBound
import Derived.RangeFuncBox
import Derived.RangeFuncCalls
import Derived.RangeFuncLeaves
import Derived.Shelf.Abstract
import Derived.Shelf.RegionOpen
import Derived.WalkKit
import Derived.OwnWalkIn
import Derived.TacticsInMore
import Derived.LoopNIn
import Derived.LoopIn
import Derived.BigRegionIn
import Derived.Stop.RegionWithIn
import Derived.Maps.AppendAt
namespace Go.Proofs.Ytecojmpiaaehlaa
open Go.RowKit Go.Shelf
set_option linter.unusedVariables false
attribute [local go_sem] Oper.semAt_some

/-- The slice reads as these values, of one cell each. -/
def RdV (w : World) (v : Value) (xs : List Value) : Prop :=
  (v = .slice none 0 0 ∧ xs = []) ∨ ∃ b off cap, v = .slice (some ⟨b, off, none⟩) xs.length cap ∧ xs.length ≤ cap ∧ cap ≤ 9223372036854775807 ∧ b < w.heap.size ∧ ∀ j x, xs[j]? = some x → w.cell? ⟨b, off + j, none⟩ = some x

theorem RdV.nil (w : World) : RdV w (.slice none 0 0) [] := .inl ⟨rfl, rfl⟩

theorem RdV.len {w : World} {v : Value} {xs : List Value} (h : RdV w v xs) : ∃ a cap, v = .slice a xs.length cap ∧ xs.length ≤ cap ∧ cap ≤ 9223372036854775807 := by
  rcases h with ⟨rfl, rfl⟩ | ⟨b, off, cap, rfl, h1, h2, _⟩
  · exact ⟨none, 0, rfl, Nat.le_refl _, by omega⟩
  · exact ⟨_, cap, rfl, h1, h2⟩

theorem RdV.below {w w' : World} {v : Value} {xs : List Value} {B : Nat} (h : RdV w v xs) (hb : Below B w w') (hB : ∀ g, v.ownBlock = some g ∨ (∃ off n c, v = .slice (some ⟨g, off, none⟩) n c) → g < B) : RdV w' v xs := by
  rcases h with h | ⟨b, off, cap, rfl, h1, h2, h3, h4⟩
  · exact .inl h
  · have hlt := hB b (.inr ⟨_, _, _, rfl⟩)
    exact .inr ⟨b, off, cap, rfl, h1, h2, by have := hb.size; omega, fun j x hj => (hb.cell (p := ⟨b, off + j, none⟩) hlt).trans (h4 j x hj)⟩

theorem RdV.all {w w' : World} {v : Value} {xs : List Value} (h : RdV w v xs) (hb : Below w.heap.size w w') : RdV w' v xs := by
  rcases h with h | ⟨b, off, cap, rfl, h1, h2, h3, h4⟩
  · exact .inl h
  · exact .inr ⟨b, off, cap, rfl, h1, h2, by have := hb.size; omega, fun j x hj => (hb.cell (p := ⟨b, off + j, none⟩) h3).trans (h4 j x hj)⟩

theorem RdV.of_own {w : World} {base : Nat} {e : TypeId} {v : Value} {n : Nat} {xs : List Value} (h : w.ownsRow base e 1 v n xs) : RdV w v xs := by
  rcases h.2 with ⟨rfl, hn⟩ | ⟨g, cap, cur, rfl, hb, hg, h1, h2, h3, h4⟩
  · exact .inl ⟨rfl, List.eq_nil_of_length_eq_zero (by rw [h.1, hn])⟩
  · have hl : xs.length = n := by rw [h.1, Nat.mul_one]
    refine .inr ⟨g, 0, cap, by rw [hl], by omega, by unfold maxLen at h2; omega, (Array.getElem?_eq_some_iff.1 hg).1, fun j x hj => ?_⟩
    have := World.ownsRow.cells h (g := g) rfl j x hj
    rwa [Addr.add_lit] at this

/-- Where its elements lie isn't here. -/
def Off (v : Value) (b : Nat) : Prop := ∀ g off n c, v = .slice (some ⟨g, off, none⟩) n c → g ≠ b

theorem Off.of_own {w : World} {base b : Nat} {e : TypeId} {v : Value} {n : Nat} {xs : List Value} (h : w.ownsRow base e 1 v n xs) (hb : b < base) : Off v b := by
  rintro g off n' c rfl e'
  subst e'
  rcases h.2 with ⟨hv, _⟩ | ⟨g', cap, cur, hv, hb', _⟩
  · cases hv
  · simp only [Value.slice.injEq, Option.some.injEq, Addr.mk.injEq] at hv
    omega

def iv (n : Nat) : Value := .int .i64 (n : Int)

def iw (x : Int) : Value := .int .i64 x

/-- What a round may write: all but what lay ahead of the call, and what the iterator has captured. -/
def Apart (n0 lo hi : Nat) (k : Nat) : Prop := ¬ (k < n0 ∨ lo ≤ k ∧ k < hi)

theorem Keeps.block' {S : Nat → Prop} {w w' : World} (h : Keeps S w w') {k : Nat} {o : Obj} (hk : w.heap[k]? = some o) (hn : ¬ S k) : w'.heap[k]? = some o :=
  (h.block k (Array.getElem?_eq_some_iff.1 hk).1 hn).trans hk

theorem apart_low {n0 lo hi k : Nat} (h : k < n0) : ¬ Apart n0 lo hi k := fun hn => hn (.inl h)
theorem apart_in {n0 lo hi k : Nat} (h1 : lo ≤ k) (h2 : k < hi) : ¬ Apart n0 lo hi k := fun hn => hn (.inr ⟨h1, h2⟩)

theorem kp_of_below {B n0 lo hi : Nat} {W W' : World} (h : Below B W W') (h1 : n0 ≤ B) (h2 : hi ≤ B) : Keeps (Apart n0 lo hi) W W' :=
  ⟨h.os, h.tape, h.output, h.size, fun k hk hn => h.block k (by unfold Apart at hn; omega)⟩

theorem kp_b {w : World} {n0 lo hi : Nat} (h1 : n0 ≤ w.heap.size) (h2 : hi ≤ w.heap.size) (W : World) (l : Nat) (o o' : Obj) (hl : w.heap.size ≤ l) (h : W.heap[l]? = some o) (a : o.isCells = false) (b : o.isWalk = false) : Keeps (Apart n0 lo hi) W (W.putObj l o') :=
  kp_of_below (belowK_b (w := w) (n₀ := w.heap.size) (Nat.le_refl _) W l o o' hl h a b) h1 h2

theorem Try.infoInt : (Try.prog.info? 3).map (fun i => (i.zero, i.size, i.bytes)) = some (some (.int .i64 0), 1, 8) := by kernel_rfl

theorem take_snoc'' (l : List Nat) (k n : Nat) (h : l[k]? = some n) : l.take (k + 1) = l.take k ++ [n] := by
  rw [List.take_add_one, h]; rfl

set_option maxHeartbeats 4000000 in
set_option maxRecDepth 100000 in
theorem values_seq (n B1 : Nat) (v : Value) (l : List Nat) (w : World) (hB : Boxed w B1 25 v) (hr : RdV w v (l.map iv)) (hl : l.length ≤ 1000) :
    SeqStopsK Fence.wide n Try.prog 41 #[.pointer (some ⟨B1, 0, none⟩)] (fun x : Nat => #[Value.int .i64 x]) (Keeps (Apart w.heap.size 0 0)) (fun ys => ys = l) (fun pre => pre <+: l) 1000 w := fun lb J Jx W hW hJ hJx hY h0 => by
  have c1 : W.cell? ⟨B1, 0, none⟩ = some v := (hW.cell (p := ⟨B1, 0, none⟩) hB.lt).trans hB.cell
  have HKW := hid (show Keeps (Apart w.heap.size 0 0) w W from ⟨hW.os, hW.tape, hW.output, hW.size, fun k hk _ => hW.block k hk⟩)
  obtain ⟨a, cap, rfl, hc1, hc2⟩ := hr.len
  rw [List.length_map] at hc1 c1 hr
  have HY := hid hY
  have HR := hid hr
  have HB := hid hB
  clear hY hJ hJx hW hr hB
  refine callsIn_of_wp Try.func41 rfl trivial ?_ rfl
  simp only [Try.ntmps41, List.size_toArray, List.length_cons, List.length_nil, Nat.reduceAdd, Nat.reduceSub, Array.replicate_succ, Array.replicate_zero, List.push_toArray, List.append_toArray, List.nil_append, List.cons_append]
  gi_wp2
  gi_loopw [7] (fun i wr => ∃ k : Nat, k ≤ l.length ∧ i = .int .i64 k ∧ J (l.take k) wr ∧ Keeps (Apart w.heap.size 0 0) w wr) (fun i _ => l.length - (intOf i).toNat)
  case atStart => exact ⟨0, Nat.zero_le _, rfl, by simpa using h0, HKW.out⟩
  case round =>
    obtain ⟨k, hk, rfl, hJ, hK⟩ := hrel
    have HJ := hid hJ
    have HK := hid hK
    clear hJ h0
    by_cases hlt : k < l.length
    · obtain ⟨x, hx⟩ : ∃ x, l[k]? = some x := ⟨_, List.getElem?_eq_getElem hlt⟩
      have HT := hid (take_snoc'' l k x hx)
      rcases HR.out with ⟨_, he⟩ | ⟨g, o, cap', e, h1, h2, h3, h4⟩
      · simp at he; subst he; simp at hlt
      · simp only [Value.slice.injEq] at e
        obtain ⟨rfl, -, rfl⟩ := e
        have hcell : wr.cell? ⟨g, o + k, none⟩ = some (.int .i64 x) := (HK.out.cell (p := ⟨g, o + k, none⟩) h3 (apart_low h3)).trans (h4 k (iv x) (by simp [hx]))
        have hki : (k : Int) < (l.length : Int) := by omega
        obtain ⟨fn, tmps, assign, body, hy, hR⟩ := HY.out _ x wr HJ.out (by rw [List.length_take]; omega)
        have HRR := hid hR
        have hpre : l.take (k + 1) <+: l := List.take_prefix _ _
        rw [HT.out] at hpre
        have HP := hid hpre
        clear h4 h1 h2 h3 hK hx hpre hR
        gi_wp2
        refine ⟨(fun h => by cases h), ?_⟩
        refine HRR.out.mono ?_
        rintro e W3 (⟨rfl, hJ3, hk3⟩ | ⟨rfl, hx3⟩)
        · have HJ3 := hid hJ3
          have HK3 := hid hk3
          clear hJ3 hk3
          gi_wp2
          go_roundw
          case rel => exact ⟨k + 1, hlt, by go_num, by rw [HT.out]; exact HJ3.out, HK.out.trans HK3.out⟩
          case measure => simp [intOf]; omega
        · have HX3 := hid hx3
          clear hx3
          gi_wp2
          refine bodyPost_ret (results_none rfl _ _ _) rfl ?_
          exact ⟨⟨_, rfl⟩, .inr ⟨_, HP.out, HX3.out⟩⟩
    · have e : k = l.length := by omega
      have hj := HJ.out
      rw [e, List.take_length] at hj
      have HJE := hid hj
      have hki : ¬ (k : Int) < (l.length : Int) := by omega
      clear hj e hlt
      gi_wp2
      go_end0
      exact ⟨⟨_, rfl⟩, .inl HJE.out⟩

set_option maxRecDepth 100000 in
set_option maxHeartbeats 2000000 in
theorem appendseq_any (w0 w : World) (lb : Array Value) (n0 lo hi : Nat) (xs : List Nat) (hx : xs.length ≤ 1000) (hb0 : Below w0.heap.size w0 w) (h1 : n0 ≤ w.heap.size) (h2 : hi ≤ w.heap.size)
    (hseq : ∀ n, SeqStopsK Fence.wide n Try.prog 41 lb (fun x : Nat => #[Value.int .i64 x]) (Keeps (Apart n0 lo hi)) (fun ys => ys = xs) (fun pre => pre <+: xs) 1000 w0) :
    Calls Try.prog 42 #[.slice none 0 0, .func (.func 41) #[] lb] w fun e w' => ∃ v, e = .returned v ∧ w'.ownsRow w.heap.size 3 1 v xs.length (xs.map iv) ∧ (v = .slice none 0 0 ↔ xs = []) ∧ Below w.heap.size w w' := by
  obtain ⟨i0, hi0, hz0, hz1, hz2⟩ := info_parts Try.infoInt
  refine (callsIn_wide (n := 5)).1 ?_
  refine callsIn_of_wp_marks Try.func42 rfl trivial ?_ rfl
  simp only [Try.ntmps42, List.size_toArray, List.length_cons, List.length_nil, Nat.reduceAdd, Nat.reduceSub, Array.replicate_succ, Array.replicate_zero, List.push_toArray, List.append_toArray, List.nil_append, List.cons_append]
  gi_wp2
  have bO := Boxed.new w 25 (.slice none 0 0)
  have hB0 : Below w.heap.size w (w.alloc (.cells #[.slice none 0 0] 25)) := (Below.refl _ w).alloc (Nat.le_refl _) _
  refine wpIn_rangeFunc_ownG rfl (by omega) (gf := 41) (lb := lb) rfl trivial (enters_of Try.func41 (by kernel_rfl) rfl)
    (hseq 4) (fun h k => Keeps.trans h k) (kp_b (by simp; omega) (by simp; omega)) (hb0.trans (hB0.mono hb0.size)) (fun _ => rfl)
    (fun pre W => (∃ v, Boxed W w.heap.size 25 v ∧ W.ownsRow w.heap.size 3 1 v pre.length (pre.map iv) ∧ (v = .slice none 0 0 ↔ pre = [])) ∧ Below w.heap.size w W)
    (fun _ _ _ => False)
    (OwnFrom.and (Own.from (holdsRow_own w.heap.size w.heap.size 25 3 1 (fun pre : List Nat => pre.length) (fun pre => pre.map iv) (fun pre v => v = .slice none 0 0 ↔ pre = [])) _) (ownFrom_below (Nat.le_refl _) (by simp)))
    (fun _ _ _ _ _ hs _ _ => hs)
    ⟨⟨_, bO, World.ownsRow_nil _ _ _ _, by simp⟩, hB0⟩
    (fun x => { tmps := #[.slice none 0 0, .func (.func 41) #[] lb, .pointer (some ⟨w.heap.size, 0, none⟩), undef, .slice none 0 0, .int .i64 x, .func (.func 41) #[] lb, .int .i64 x, undef, undef, undef, undef, undef], defers := [] }) ?assign ?body ?done ?stop
  case assign =>
    intro l x W K hK
    gi_wp2
    exact hK
  case body =>
    rintro l pre x W ⟨⟨v, hv, hrow, hnil⟩, hB⟩ hlt
    have hc := hv.cell
    gi_wp2_with (gi_at_builtin; refine wpListIn_append_own _ rfl _ _ 25 rfl w.heap.size 3 i0 (.int .i64 0) 1 8 Try.underlying25 hi0 hz0 hz1 hz2 rfl (by decide) _ _ _ rfl (hrow.alloc _) ⟨W.heap.size, 0, none⟩ 1 1 [.int .i64 x] rfl rfl (cell_one_new _ _ _) (by simp [Value.oneCell']) (by unfold maxLen; omega) (by omega) (by have := hB.size; simp; omega) ?_; intro v' w1 hown' hgrow _; obtain ⟨g', cap', rfl⟩ := ownsRow_succ hown'; obtain ⟨hv1, hv2, hr2, hk2, hb2⟩ := hv.appended (by decide) hrow hB.size (Nat.le_refl _) hown' hgrow; have hc1 := hv1.cell; have hf1 := hv1.frozen)
    exact ⟨hk2.from _, kp_of_below hb2 h1 h2, ⟨_, hv2, by simpa [iv] using hr2, by simp⟩, hB.trans hb2⟩
  case done =>
    rintro D ys W hD rfl ⟨⟨v, hv, hrow, hnil⟩, hB⟩ hK
    have hc := hv.cell
    gi_wp2
    refine ⟨by simp, .inl ⟨_, _, rfl, run_takeDeferred hK, ?_⟩⟩
    exact ⟨_, results_tmp rfl _ _ _, v, rfl, ownsRow_putObj hrow _ hK rfl, hnil, hB.trans (belowK_b (w := w) (Nat.le_refl _) W D _ _ (by simp at hD; omega) hK rfl rfl)⟩
  case stop =>
    rintro D c pre W _ _ h _
    exact h.elim

theorem collect_any (w0 w : World) (lb : Array Value) (n0 lo hi : Nat) (xs : List Nat) (hx : xs.length ≤ 1000) (hb0 : Below w0.heap.size w0 w) (h1 : n0 ≤ w.heap.size) (h2 : hi ≤ w.heap.size)
    (hseq : ∀ n, SeqStopsK Fence.wide n Try.prog 41 lb (fun x : Nat => #[Value.int .i64 x]) (Keeps (Apart n0 lo hi)) (fun ys => ys = xs) (fun pre => pre <+: xs) 1000 w0) :
    Calls Try.prog 39 #[.func (.func 41) #[] lb] w fun e w' => ∃ v, e = .returned v ∧ w'.ownsRow w.heap.size 3 1 v xs.length (xs.map iv) ∧ (v = .slice none 0 0 ↔ xs = []) ∧ Below w.heap.size w w' := by
  have HS := hid hseq
  clear hseq
  go_enter Try.func39, Try.ntmps39
  go_wp2_with fail
  refine (appendseq_any w0 w lb n0 lo hi xs hx hb0 h1 h2 HS.out).mono ?_
  rintro e w' ⟨v, rfl, hr, hn, hb⟩
  have HR := hid hr
  have HN := hid hn
  have HB := hid hb
  clear hr hn hb
  go_wp2
  go_ret
  exact ⟨v, rfl, HR.out, HN.out, HB.out⟩


theorem mergeSort_map (l : List Nat) : (l.map Int.ofNat).mergeSort (fun x y => decide (x ≤ y)) = (l.mergeSort fun x y => decide (x ≤ y)).map Int.ofNat := by
  have h1 : ((l.mergeSort fun x y => decide (x ≤ y)).map Int.ofNat).Perm (l.map Int.ofNat) := (List.mergeSort_perm l _).map _
  have h2 : ((l.mergeSort fun x y => decide (x ≤ y)).map Int.ofNat).Pairwise (fun x y => (decide (x ≤ y)) = true) := by
    refine List.Pairwise.map _ (fun a b h => ?_) (List.pairwise_mergeSort (le := fun x y : Nat => decide (x ≤ y)) (fun a b c => by simp; omega) (fun a b => by simp; omega) l)
    simpa using h
  have h3 := List.pairwise_mergeSort (le := fun x y : Int => decide (x ≤ y)) (fun a b c => by simp; omega) (fun a b => by simp; omega) (l.map Int.ofNat)
  refine List.Perm.eq_of_pairwise (le := fun x y : Int => decide (x ≤ y) = true) ?_ h3 h2 ((List.mergeSort_perm _ _).trans h1.symm)
  intro a b _ _ h h'
  simp only [decide_eq_true_eq] at h h'
  omega
theorem ivs_map (l : List Nat) : (l.map Int.ofNat).map (Value.int .i64) = l.map iv := by rw [List.map_map]; rfl

theorem sorted_any (w0 w : World) (lb : Array Value) (n0 lo hi : Nat) (xs : List Nat) (hx : xs.length ≤ 1000) (hb0 : Below w0.heap.size w0 w) (h1 : n0 ≤ w.heap.size) (h2 : hi ≤ w.heap.size)
    (hseq : ∀ n, SeqStopsK Fence.wide n Try.prog 41 lb (fun x : Nat => #[Value.int .i64 x]) (Keeps (Apart n0 lo hi)) (fun ys => ys = xs) (fun pre => pre <+: xs) 1000 w0) :
    Calls Try.prog 37 #[.func (.func 41) #[] lb] w fun e w' => ∃ v, e = .returned v ∧ w'.ownsRow w.heap.size 3 1 v xs.length ((xs.mergeSort fun x y => decide (x ≤ y)).map iv) ∧ Below w.heap.size w w' := by
  have HS := hid hseq
  clear hseq
  go_enter Try.func37, Try.ntmps37
  go_wp2_with fail
  refine (collect_any w0 w lb n0 lo hi xs hx hb0 h1 h2 HS.out).mono ?_
  rintro e w1 ⟨v, rfl, hr, hn, hb⟩
  have HB := hid hb
  have hlow := fun g hg => (World.ownsRow.lt hr g hg).1
  have hs1 := hb.size
  rw [← ivs_map] at hr
  have HR := hid (show w1.ownsRow w.heap.size 3 1 v (xs.map Int.ofNat).length ((xs.map Int.ofNat).map (Value.int .i64)) by rw [List.length_map]; exact hr)
  have HLOW := hid hlow
  clear hr hn hb hlow
  go_wp2_with fail
  refine (sort_own w1 w.heap.size v (xs.map Int.ofNat) HR.out (by rw [List.length_map]; exact hx)).mono ?_
  rintro e w2 ⟨rfl, ho, hg⟩
  rw [mergeSort_map, ivs_map, List.length_map] at ho
  have HO := hid ho
  have HB2 := hid (HB.out.grown hg hs1 HLOW.out)
  clear ho hg
  go_wp2
  go_ret
  exact ⟨_, rfl, HO.out, HB2.out⟩

theorem values_any (w : World) (a : Option Addr) (n c : Nat) :
    Calls Try.prog 38 #[.slice a n c] w fun e w' => e = .returned (.func (.func 41) #[] #[.pointer (some ⟨w.heap.size, 0, none⟩)]) ∧ w' = w.alloc (.cells #[.slice a n c] 25) := by
  go_enter Try.func38, Try.ntmps38
  go_wp2
  go_ret
  exact ⟨rfl, rfl⟩

/-- Both: a slice's numbers, in order, in new memory. -/
theorem sorted_values (w : World) (v : Value) (l : List Nat) (hr : RdV w v (l.map iv)) (hl : l.length ≤ 1000) :
    Calls Try.prog 37 #[.func (.func 41) #[] #[.pointer (some ⟨w.heap.size, 0, none⟩)]] (w.alloc (.cells #[v] 25)) fun e w' => ∃ u, e = .returned u ∧ w'.ownsRow w.heap.size 3 1 u l.length ((l.mergeSort fun x y => decide (x ≤ y)).map iv) ∧ Below w.heap.size w w' := by
  have hb : Below w.heap.size w (w.alloc (.cells #[v] 25)) := (Below.refl _ w).alloc (Nat.le_refl _) _
  refine (sorted_any (w.alloc (.cells #[v] 25)) (w.alloc (.cells #[v] 25)) _ (w.alloc (.cells #[v] 25)).heap.size 0 0 l hl (Below.refl _ _) (Nat.le_refl _) (Nat.zero_le _) (fun n => values_seq n _ v l _ (Boxed.new w 25 v) (hr.all hb) hl)).mono ?_
  rintro e w' ⟨u, rfl, ho, hb2⟩
  exact ⟨u, rfl, owns_base ho hb.size, hb.trans (hb2.mono hb.size)⟩

end Go.Proofs.Ytecojmpiaaehlaa
