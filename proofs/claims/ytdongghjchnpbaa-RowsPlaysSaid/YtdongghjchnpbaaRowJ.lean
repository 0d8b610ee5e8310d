/-
  slices.Collect over an iterator that is known by its contract: a new slice, of what comes.
-/
import Derived.Test.YtdongghjchnpbaaRowI
import Derived.Maps.AppendAt
namespace Go.Proofs.Ytdongghjchnpbaa
open Go.RowKit Go.Shelf
set_option linter.unusedVariables false
attribute [local go_sem] Oper.semAt_some

theorem kp_of_below {B n0 lo hi : Nat} {W W' : World} (h : Below B W W') (h1 : n0 ≤ B) (h2 : hi ≤ B) : Keeps (Apart n0 lo hi) W W' :=
  ⟨h.os, h.tape, h.output, h.size, fun k hk hn => h.block k (by unfold Apart at hn; omega)⟩

theorem kp_b {w : World} {n0 lo hi : Nat} (h1 : n0 ≤ w.heap.size) (h2 : hi ≤ w.heap.size) (W : World) (l : Nat) (o o' : Obj) (hl : w.heap.size ≤ l) (h : W.heap[l]? = some o) (a : o.isCells = false) (b : o.isWalk = false) : Keeps (Apart n0 lo hi) W (W.putObj l o') :=
  kp_of_below (belowK_b (w := w) (n₀ := w.heap.size) (Nat.le_refl _) W l o o' hl h a b) h1 h2

theorem Try.infoInt : (Try.prog.info? 3).map (fun i => (i.zero, i.size, i.bytes)) = some (some (.int .i64 0), 1, 8) := by kernel_rfl
theorem Try.infoU32 : (Try.prog.info? 33).map (fun i => (i.zero, i.size, i.bytes)) = some (some (.int .u32 0), 1, 4) := by kernel_rfl

set_option maxRecDepth 100000 in
set_option maxHeartbeats 2000000 in
theorem appendseq_any (w0 w : World) (lb : Array Value) (n0 lo hi : Nat) (xs : List Nat) (hx : xs.length ≤ 16) (hb0 : Below w0.heap.size w0 w) (h1 : n0 ≤ w.heap.size) (h2 : hi ≤ w.heap.size)
    (hseq : ∀ n, SeqStopsK Fence.wide n Try.prog 84 lb (fun x : Nat => #[Value.int .i64 x]) (Keeps (Apart n0 lo hi)) (fun ys => ys = xs) (fun pre => pre <+: xs) 16 w0) :
    Calls Try.prog 71 #[.slice none 0 0, .func (.func 84) #[] lb] w fun e w' => ∃ v, e = .returned v ∧ w'.ownsRow w.heap.size 3 1 v xs.length (xs.map iv) ∧ (v = .slice none 0 0 ↔ xs = []) ∧ Below w.heap.size w w' := by
  obtain ⟨i0, hi0, hz0, hz1, hz2⟩ := info_parts Try.infoInt
  refine (callsIn_wide (n := 5)).1 ?_
  refine callsIn_of_wp_marks Try.func71 rfl trivial ?_ rfl
  simp only [Try.ntmps71, List.size_toArray, List.length_cons, List.length_nil, Nat.reduceAdd, Nat.reduceSub, Array.replicate_succ, Array.replicate_zero, List.push_toArray, List.append_toArray, List.nil_append, List.cons_append]
  gi_wp2
  have bO := Boxed.new w 34 (.slice none 0 0)
  have hB0 : Below w.heap.size w (w.alloc (.cells #[.slice none 0 0] 34)) := (Below.refl _ w).alloc (Nat.le_refl _) _
  refine wpIn_rangeFunc_ownG rfl (by omega) (gf := 84) (lb := lb) rfl trivial (enters_of Try.func84 (by kernel_rfl) rfl)
    (hseq 4) (fun h k => Keeps.trans h k) (kp_b (by simp; omega) (by simp; omega)) (hb0.trans (hB0.mono hb0.size)) (fun _ => rfl)
    (fun pre W => (∃ v, Boxed W w.heap.size 34 v ∧ W.ownsRow w.heap.size 3 1 v pre.length (pre.map iv) ∧ (v = .slice none 0 0 ↔ pre = [])) ∧ Below w.heap.size w W)
    (fun _ _ _ => False)
    (OwnFrom.and (Own.from (holdsRow_own w.heap.size w.heap.size 34 3 1 (fun pre : List Nat => pre.length) (fun pre => pre.map iv) (fun pre v => v = .slice none 0 0 ↔ pre = [])) _) (ownFrom_below (Nat.le_refl _) (by simp)))
    (fun _ _ _ _ _ hs _ _ => hs)
    ⟨⟨_, bO, World.ownsRow_nil _ _ _ _, by simp⟩, hB0⟩
    (fun x => { tmps := #[.slice none 0 0, .func (.func 84) #[] lb, .pointer (some ⟨w.heap.size, 0, none⟩), undef, .slice none 0 0, .int .i64 x, .func (.func 84) #[] lb, .int .i64 x, undef, undef, undef, undef, undef], defers := [] }) ?assign ?body ?done ?stop
  case assign =>
    intro l x W K hK
    gi_wp2
    exact hK
  case body =>
    rintro l pre x W ⟨⟨v, hv, hrow, hnil⟩, hB⟩ hlt
    have hc := hv.cell
    gi_wp2_with (gi_at_builtin; refine wpListIn_append_own _ rfl _ _ 34 rfl w.heap.size 3 i0 (.int .i64 0) 1 8 Try.underlying34 hi0 hz0 hz1 hz2 rfl (by decide) _ _ _ rfl (hrow.alloc _) ⟨W.heap.size, 0, none⟩ 1 1 [.int .i64 x] rfl rfl (cell_one_new _ _ _) (by simp [Value.oneCell']) (by unfold maxLen; omega) (by omega) (by have := hB.size; simp; omega) ?_; intro v' w1 hown' hgrow _; obtain ⟨g', cap', rfl⟩ := ownsRow_succ hown'; obtain ⟨hv1, hv2, hr2, hk2, hb2⟩ := hv.appended (by decide) hrow hB.size (Nat.le_refl _) hown' hgrow; have hc1 := hv1.cell; have hf1 := hv1.frozen)
    exact ⟨hk2.from _, kp_of_below hb2 h1 h2, ⟨_, hv2, by simpa [iv] using hr2, by simp⟩, hB.trans hb2⟩
  case done =>
    rintro D ys W hD rfl ⟨⟨v, hv, hrow, hnil⟩, hB⟩ hK
    have hc := hv.cell
    gi_wp2
    refine ⟨by simp, .inl ⟨_, _, rfl, run_takeDeferred hK, ?_⟩⟩
    exact ⟨_, results_tmp rfl _ _ _, v, rfl, ownsRow_putObj hrow _ hK rfl, hnil, hB.trans (belowK_b (w := w) (Nat.le_refl _) W D _ _ (by simp at hD; omega) hK rfl rfl)⟩
  case stop =>
    rintro D c pre W _ _ h _
    exact h.elim

theorem collect_any (w0 w : World) (lb : Array Value) (n0 lo hi : Nat) (xs : List Nat) (hx : xs.length ≤ 16) (hb0 : Below w0.heap.size w0 w) (h1 : n0 ≤ w.heap.size) (h2 : hi ≤ w.heap.size)
    (hseq : ∀ n, SeqStopsK Fence.wide n Try.prog 84 lb (fun x : Nat => #[Value.int .i64 x]) (Keeps (Apart n0 lo hi)) (fun ys => ys = xs) (fun pre => pre <+: xs) 16 w0) :
    Calls Try.prog 59 #[.func (.func 84) #[] lb] w fun e w' => ∃ v, e = .returned v ∧ w'.ownsRow w.heap.size 3 1 v xs.length (xs.map iv) ∧ (v = .slice none 0 0 ↔ xs = []) ∧ Below w.heap.size w w' := by
  have HS := hid hseq
  clear hseq
  go_enter Try.func59, Try.ntmps59
  go_wp2_with fail
  refine (appendseq_any w0 w lb n0 lo hi xs hx hb0 h1 h2 HS.out).mono ?_
  rintro e w' ⟨v, rfl, hr, hn, hb⟩
  have HR := hid hr
  have HN := hid hn
  have HB := hid hb
  clear hr hn hb
  go_wp2
  go_ret
  exact ⟨v, rfl, HR.out, HN.out, HB.out⟩

end Go.Proofs.Ytdongghjchnpbaa
