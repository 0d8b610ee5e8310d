/-
  slices.Values of items, slices.Collect over it: a new row of the same items.
-/
import Derived.Test.YtcgfechodbmimaaPrF
import Derived.RangeFuncNested
import Derived.RangeFuncBound
import Derived.RangeFuncBox
import Derived.RangeFuncCalls
import Derived.RangeFuncLeaves
import Derived.Shelf.Abstract
import Derived.Shelf.RegionOpen
import Derived.WalkKit
import Derived.OwnWalkIn
import Derived.TacticsInMore
import Derived.LoopNIn
import Derived.LoopIn
import Derived.BigRegionIn
import Derived.Stop.RegionWithIn
import Derived.Maps.AppendAt
namespace Go.Proofs.Ytcgfechodbmimaa
open Go.RowKit Go.Shelf
set_option linter.unusedVariables false
set_option linter.unusedSimpArgs false
attribute [local go_sem] Oper.semAt_some

/-- What a round may write: all but what lay ahead of the call. -/
def Ahead (n0 : Nat) (k : Nat) : Prop := ¬ k < n0

theorem take_it (q : List It) (k : Nat) (h : k < q.length) : q.take (k + 1) = q.take k ++ [it q k] := by
  have h1 := it_some (q := q) (k := k) h
  rw [List.take_add_one, h1]
  rfl

set_option maxHeartbeats 4000000 in
set_option maxRecDepth 100000 in
theorem values_seq (n B n0 lo c : Nat) (a : Option Addr) (q : List It) (w : World) (hown : w.ownsRow lo 32 3 (.slice a q.length c) q.length (cels q)) (hn0 : n0 = w.heap.size) (hl : q.length ≤ 10000)
    (hB : Boxed w B 45 (.slice a q.length c)) :
    SeqStopsK Fence.wide n Try.prog 32 #[.pointer (some ⟨B, 0, none⟩)] (fun x : It => #[itv x]) (Keeps (Ahead n0)) (fun ys => ys = q) (fun pre => pre <+: q) 10000 w := fun l J Jx W hW hJ hJx hY h0 => by
  have hkW : Keeps (Ahead n0) w W := ⟨hW.os, hW.tape, hW.output, hW.size, fun k hk _ => hW.block k hk⟩
  have c1 : W.cell? ⟨B, 0, none⟩ = some (.slice a q.length c) := (hW.cell (p := ⟨B, 0, none⟩) hB.lt).trans hB.cell
  have HO := hid hown
  have HKW := hid hkW
  have HY := hid hY
  have HAB := hid hJ
  have HN0 := hid hn0
  have HTA := hid (take_it q)
  obtain ⟨N, hN⟩ : ∃ N, N = q.length := ⟨_, rfl⟩
  rw [← hN] at c1 hl
  have HN := hid hN
  clear hown hkW hB hJ hJx hN hn0 hY
  refine callsIn_of_wp Try.func32 rfl trivial ?_ rfl
  simp only [Try.ntmps32, List.size_toArray, List.length_cons, List.length_nil, Nat.reduceAdd, Nat.reduceSub, Array.replicate_succ, Array.replicate_zero, List.push_toArray, List.append_toArray, List.nil_append, List.cons_append]
  gi_wp2
  gi_loopw [7] (fun i wr => ∃ k : Nat, k ≤ N ∧ i = .int .i64 k ∧ J (q.take k) wr ∧ Keeps (Ahead n0) w wr) (fun i _ => N - (intOf i).toNat)
  case atStart => exact ⟨0, Nat.zero_le _, rfl, by simpa using h0, HKW.out⟩
  case round =>
    obtain ⟨k, hk, rfl, hJ, hK⟩ := hrel
    have HJ := hid hJ
    have HK := hid hK
    clear hJ h0
    by_cases hlt : k < N
    · have hkq : k < q.length := by have := HN.out; omega
      obtain ⟨g, rfl⟩ : ∃ g, a = some ⟨g, 0, none⟩ := by
        rcases owns_shape HO.out with ⟨_, e⟩ | ⟨g, cap, e, _⟩
        · omega
        · simp only [Value.slice.injEq] at e
          exact ⟨g, e.1⟩
      have hgl := (World.ownsRow.lt HO.out g rfl).2
      have ho : wr.ownsRow lo 32 3 (.slice (some ⟨g, 0, none⟩) q.length c) q.length (cels q) := owns_by HO.out (fun p hp => hK.block p (World.ownsRow.lt HO.out p hp).2 (fun hh => hh (by have := HN0.out; have := (World.ownsRow.lt HO.out p hp).2; omega)))
      obtain ⟨e0, e1, e2, -, -, -⟩ := own_item ho hkq
      obtain ⟨x, hx⟩ : ∃ x, x = it q k := ⟨_, rfl⟩
      have HX := hid hx
      rw [← hx] at e0 e1 e2
      obtain ⟨x0, x1, x2⟩ := x
      have hki : (k : Int) < (N : Int) := by omega
      have hw1 := wrap_mid (a := (k : Int) + 1) (by omega) (by omega)
      have hJ1 : J (q.take k) (wr.alloc (.cells #[.int .u32 x0, .int .u8 x1, .int .u32 x2] 32)) := HAB.out _ wr _ none HJ.out ⟨rfl, rfl, rfl, by rw [World.size_alloc]; omega, fun p hp _ => heap_alloc_old _ _ hp⟩ (fun r e => by cases e)
      have HK1 := hid (show Keeps (Ahead n0) w (wr.alloc (.cells #[.int .u32 x0, .int .u8 x1, .int .u32 x2] 32)) from HK.out.alloc _)
      obtain ⟨fn, tmps, assign, body, hy, hR⟩ := HY.out (q.take k) (x0, x1, x2) _ hJ1 (by rw [List.length_take]; omega)
      have HR := hid hR
      have HT := hid (show q.take (k + 1) = q.take k ++ [(x0, x1, x2)] by rw [HTA.out k hkq, ← HX.out])
      have HLE := hid (show q.take (k + 1) <+: q from List.take_prefix _ _)
      clear hx hkq hgl ho hK hR hJ1
      unfold itv at hy
      dsimp only at hy
      gi_wp2
      refine ⟨(fun h => by cases h), ?_⟩
      refine HR.out.mono ?_
      rintro e W3 (⟨rfl, hJ3, hk3⟩ | ⟨rfl, hx3⟩)
      · have HJ3 := hid hJ3
        have HK3 := hid hk3
        clear hJ3 hk3
        gi_wp2
        exact ⟨⟨k + 1, hlt, by go_num, by rw [HT.out]; exact HJ3.out, HK1.out.trans HK3.out⟩, by simp [intOf]; omega⟩
      · have HX3 := hid hx3
        clear hx3
        gi_wp2
        refine bodyPost_ret (results_none rfl _ _ _) rfl ?_
        exact ⟨⟨_, rfl⟩, .inr ⟨_, by have := HLE.out; rw [HT.out] at this; exact this, HX3.out⟩⟩
    · have e : k = N := by omega
      subst e
      have hki : ¬ (k : Int) < (k : Int) := by omega
      gi_wp2
      go_end0
      have hfin := HJ.out
      rw [HN.out, List.take_length] at hfin
      exact ⟨⟨_, rfl⟩, .inl hfin⟩

theorem kpa_of_below {B n0 : Nat} {W W' : World} (h : Below B W W') (h1 : n0 ≤ B) : Keeps (Ahead n0) W W' :=
  ⟨h.os, h.tape, h.output, h.size, fun k hk hn => h.block k (by unfold Ahead at hn; omega)⟩

theorem kpa_b {w : World} {n0 : Nat} (h1 : n0 ≤ w.heap.size) (W : World) (l : Nat) (o o' : Obj) (hl : w.heap.size ≤ l) (h : W.heap[l]? = some o) (a : o.isCells = false) (b : o.isWalk = false) : Keeps (Ahead n0) W (W.putObj l o') :=
  kpa_of_below (belowK_b (w := w) (n₀ := w.heap.size) (Nat.le_refl _) W l o o' hl h a b) h1

theorem cels_one (l : List It) (x : It) : cels (l ++ [x]) = cels l ++ [.int .u32 x.1, .int .u8 x.2.1, .int .u32 x.2.2] := cels_snoc l x

/-- A box of an item. -/
def ItBox (W : World) (B : Nat) (x : It) : Prop := W.heap[B]? = some (.cells #[.int .u32 x.1, .int .u8 x.2.1, .int .u32 x.2.2] 32 (0, 0))

theorem itbox_own {β : Type} (B : Nat) (f : β → It) : Go.Own (fun s W => ItBox W B (f s)) := fun s X Y row hs hg hrow =>
  (hg.block B (Array.getElem?_eq_some_iff.1 hs).1 (fun e' => by
    obtain ⟨o, ho, hc⟩ := hrow B e'.symm
    rw [show X.heap[B]? = _ from hs] at ho
    cases ho
    cases hc)).trans hs

/-- The frame of a round: its variable's box is told. -/
def FrA (lb : Array Value) (B0 : Nat) (x : It) (Bx : Nat) : Act :=
  { tmps := #[.slice none 0 0, .func (.func 32) #[] lb, .pointer (some ⟨B0, 0, none⟩), undef, .slice none 0 0, .pointer (some ⟨Bx, 0, none⟩), .func (.func 32) #[] lb, itv x, undef, undef, undef, undef, undef], defers := [] }

set_option maxRecDepth 100000 in
set_option maxHeartbeats 2000000 in
theorem appendseq11_any (w0 w : World) (lb : Array Value) (n0 : Nat) (q : List It) (hl : q.length ≤ 10000) (hb0 : Below w0.heap.size w0 w) (h1 : n0 ≤ w.heap.size)
    (hseq : ∀ n, SeqStopsK Fence.wide n Try.prog 32 lb (fun x : It => #[itv x]) (Keeps (Ahead n0)) (fun ys => ys = q) (fun pre => pre <+: q) 10000 w0) :
    Calls Try.prog 36 #[.slice none 0 0, .func (.func 32) #[] lb] w fun e w' => ∃ v, e = .returned v ∧ w'.ownsRow w.heap.size 32 3 v q.length (cels q) ∧ Below w.heap.size w w' := by
  obtain ⟨i0, hi0, hz0, hz1, hz2⟩ := info_parts infoIt
  refine (callsIn_wide (n := 5)).1 ?_
  refine callsIn_of_wp_marks Try.func36 rfl trivial ?_ rfl
  simp only [Try.ntmps36, List.size_toArray, List.length_cons, List.length_nil, Nat.reduceAdd, Nat.reduceSub, Array.replicate_succ, Array.replicate_zero, List.push_toArray, List.append_toArray, List.nil_append, List.cons_append]
  gi_wp2
  have bO := Boxed.new w 45 (.slice none 0 0)
  have hB0 : Below w.heap.size w (w.alloc (.cells #[.slice none 0 0] 45)) := (Below.refl _ w).alloc (Nat.le_refl _) _
  refine wpIn_rangeFunc_ownH rfl (by omega) (gf := 32) (lb := lb) rfl trivial (enters_of Try.func32 (by kernel_rfl) rfl)
    (hseq 4) (fun h k => Keeps.trans h k) (kpa_b (by rw [World.size_alloc]; omega)) (hb0.trans (hB0.mono hb0.size)) (fun _ => rfl)
    (fun pre W => (∃ v, Boxed W w.heap.size 45 v ∧ W.ownsRow w.heap.size 32 3 v pre.length (cels pre) ∧ True) ∧ Below w.heap.size w W)
    (fun _ _ _ => False)
    (OwnFrom.and (Own.from (holdsRow_own w.heap.size w.heap.size 45 32 3 (fun pre : List It => pre.length) (fun pre => cels pre) (fun _ _ => True)) _) (ownFrom_below (Nat.le_refl _) (by simp)))
    (fun _ _ _ _ _ hs _ _ => hs)
    ⟨⟨_, bO, World.ownsRow_nil _ _ _ _, trivial⟩, hB0⟩
    (fun x a' W => ∃ Bx, w.heap.size < Bx ∧ ItBox W Bx x ∧ a' = FrA lb w.heap.size x Bx)
    (fun x a' => fun s W W' row hs hg hr => by
      obtain ⟨Bx, h1, h2, h3⟩ := hs
      exact ⟨Bx, h1, (Own.from (itbox_own Bx (fun _ : Unit => x)) _) () W W' row h2 hg hr, h3⟩)
    ?assign ?body ?done ?stop
  case assign =>
    rintro l pre x W K ⟨⟨v, hv, hrow, -⟩, hB⟩ hK
    obtain ⟨x0, x1, x2⟩ := x
    have hk := hK (FrA lb w.heap.size (x0, x1, x2) W.heap.size) (W.alloc (.cells #[.int .u32 x0, .int .u8 x1, .int .u32 x2] 32)) ((KeepsOthers.alloc _ _).from _) (kpa_of_below ((Below.refl W.heap.size W).alloc (Nat.le_refl _) _) (Nat.le_trans h1 hB.size)) ⟨⟨v, hv.alloc _, hrow.alloc _, trivial⟩, hB.trans ((Below.refl _ W).alloc hB.size _)⟩ ⟨W.heap.size, hv.lt, heap_alloc_new W _, rfl⟩
    unfold FrA itv at hk
    unfold itv
    dsimp only at hk ⊢
    clear hK
    gi_wp2
    exact hk
  case body =>
    rintro l pre x a' W hl0 ⟨r, hr⟩ ⟨⟨v, hv, hrow, -⟩, hB⟩ ⟨Bx, hBx, hbx, rfl⟩ hlt
    obtain ⟨x0, x1, x2⟩ := x
    unfold FrA itv
    dsimp only
    have hc := hv.cell
    have c0 : W.cell? ⟨Bx, 0, none⟩ = some (.int .u32 x0) := (cell_of_row _ _ _ _ _ _ hbx).trans rfl
    have c1 : W.cell? ⟨Bx, 1, none⟩ = some (.int .u8 x1) := (cell_of_row _ _ _ _ _ _ hbx).trans rfl
    have c2 : W.cell? ⟨Bx, 2, none⟩ = some (.int .u32 x2) := (cell_of_row _ _ _ _ _ _ hbx).trans rfl
    have hlit : ∀ j u, [Value.int .u32 x0, .int .u8 x1, .int .u32 x2][j]? = some u → (W.alloc (.cells #[.int .u32 x0, .int .u8 x1, .int .u32 x2] 32)).cell? ((⟨W.heap.size, 0, none⟩ : Addr).add j) = some u := fun j u hj => by
      rw [Addr.add_lit, Nat.zero_add, cell_of_row _ _ _ _ _ _ (heap_alloc_new W _)]
      simpa using hj
    have HLIT := hid hlit
    have HBX := hid hbx
    clear hlit hbx hseq hr
    gi_wp2_with (gi_at_builtin; refine wpListIn_append_own _ rfl _ _ 45 rfl w.heap.size 32 i0 (.agg #[.int .u32 0, .int .u8 0, .int .u32 0]) 3 12 Try.underlying45 hi0 hz0 hz1 hz2 rfl (by decide) _ _ _ rfl (hrow.alloc _) ⟨W.heap.size, 0, none⟩ 1 1 [.int .u32 x0, .int .u8 x1, .int .u32 x2] rfl rfl HLIT.out (by simp [Value.oneCell']) (by unfold maxLen; omega) (by omega) (by have := hB.size; rw [World.size_alloc]; omega) ?_; intro v' w1 hown' hgrow _; obtain ⟨g', cap', rfl⟩ := ownsRow_succ hown'; obtain ⟨hv1, hv2, hr2, hk2, hb2⟩ := hv.appended (by decide) hrow hB.size (Nat.le_refl _) hown' hgrow; have hc1 := hv1.cell; have hf1 := hv1.frozen)
    exact ⟨hk2.from _, kpa_of_below hb2 h1, ⟨_, hv2, by rw [List.length_append, List.length_singleton, cels_one]; exact hr2, trivial⟩, hB.trans hb2⟩
  case done =>
    rintro D ys W hD rfl ⟨⟨v, hv, hrow, -⟩, hB⟩ hK
    have hc := hv.cell
    gi_wp2
    refine ⟨by simp, .inl ⟨_, _, rfl, run_takeDeferred hK, ?_⟩⟩
    exact ⟨_, results_tmp rfl _ _ _, v, rfl, ownsRow_putObj hrow _ hK rfl, hB.trans (belowK_b (w := w) (Nat.le_refl _) W D _ _ (by simp at hD; omega) hK rfl rfl)⟩
  case stop =>
    rintro D c pre W _ _ h _
    exact h.elim

theorem collect11_any (w0 w : World) (lb : Array Value) (n0 : Nat) (q : List It) (hl : q.length ≤ 10000) (hb0 : Below w0.heap.size w0 w) (h1 : n0 ≤ w.heap.size)
    (hseq : ∀ n, SeqStopsK Fence.wide n Try.prog 32 lb (fun x : It => #[itv x]) (Keeps (Ahead n0)) (fun ys => ys = q) (fun pre => pre <+: q) 10000 w0) :
    Calls Try.prog 30 #[.func (.func 32) #[] lb] w fun e w' => ∃ v, e = .returned v ∧ w'.ownsRow w.heap.size 32 3 v q.length (cels q) ∧ Below w.heap.size w w' := by
  have HS := hid hseq
  clear hseq
  go_enter Try.func30, Try.ntmps30
  go_wp2_with fail
  refine (appendseq11_any w0 w lb n0 q hl hb0 h1 HS.out).mono ?_
  rintro e w' ⟨v, rfl, hr, hb⟩
  have HR := hid hr
  have HB := hid hb
  clear hr hb
  go_wp2
  go_ret
  exact ⟨v, rfl, HR.out, HB.out⟩

end Go.Proofs.Ytcgfechodbmimaa
