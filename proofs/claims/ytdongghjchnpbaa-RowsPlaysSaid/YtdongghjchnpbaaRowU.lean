/-
  Contracts: slices.Contains at []uint32; the document's Same, SameInts; Row.
-/
import Derived.Test.YtdongghjchnpbaaRowT
namespace Go.Proofs.Ytdongghjchnpbaa
open Go.RowKit Go.Shelf
set_option linter.unusedVariables false
attribute [local go_sem] Oper.semAt_some

/-- A number that isn't below 0 just where it is there. -/
def Tells (l : List Nat) (j : Nat) (e : Ending) : Prop := ∃ i : Int, e = .returned (.int .i64 i) ∧ decide (0 ≤ i) = l.contains j

theorem index_any (w : World) (v : Value) (l : List Nat) (j : Nat) (hr : RdV w v (l.map uv)) :
    Calls Try.prog 76 #[v, .int .u32 (j : Nat)] w fun e w' => Tells l j e ∧ w = w' := by
  obtain ⟨ad, cap, rfl, hcl, hcm⟩ := hr.len
  rw [List.length_map] at hcl
  have HR := hid hr
  clear hr
  have hlm : l.length ≤ 9223372036854775807 := by omega
  rw [List.length_map]
  go_enter Try.func76, Try.ntmps76
  go_wp2
  go_loop [8] (fun i => ∃ k : Nat, k ≤ l.length ∧ i = .int .i64 k ∧ (l.take k).contains j = false) (fun i => l.length - (intOf i).toNat)
  case atStart => exact ⟨0, Nat.zero_le _, rfl, by simp⟩
  case round =>
    obtain ⟨k, hk, rfl, hw⟩ := hrel
    have HW := hid hw
    clear hw
    by_cases hlt : k < l.length
    · obtain ⟨n, hn⟩ : ∃ n, l[k]? = some n := ⟨_, List.getElem?_eq_getElem hlt⟩
      rcases HR.out with ⟨_, he⟩ | ⟨g, o, cap', e, h1, h2, h3, h4⟩
      · simp at he; subst he; simp at hlt
      · rw [List.length_map] at e
        simp only [Value.slice.injEq] at e
        obtain ⟨rfl, -, rfl⟩ := e
        have hcell : w.cell? ⟨g, o + k, none⟩ = some (.int .u32 n) := h4 k (uv n) (by simp [hn])
        have HT := hid (take_snoc' l k n hn)
        have HN := hid hn
        clear h4 h1 h2 h3 hn
        by_cases hf0 : j = n
        · have e1 : ((j : Int) == (n : Int)) = true := by simp; omega
          have HF0 := hid (show l.contains j = true by rw [List.contains_iff_mem, hf0]; exact List.mem_of_getElem? HN.out)
          clear hf0
          go_wp2
          go_ret
          exact ⟨⟨k, rfl, by rw [HF0.out]; simp⟩, rfl⟩
        · have e1 : ((j : Int) == (n : Int)) = false := by simp; omega
          have HF0 := hid (show (j == n) = false by simpa using hf0)
          clear hf0
          go_wp2
          go_round
          case rel => exact ⟨k + 1, hlt, by go_num, by rw [HT.out]; simp only [List.contains_append, HW.out, List.contains_cons, HF0.out, List.contains_nil, Bool.or_self]⟩
          case measure => simp [intOf]; omega
    · have e : k = l.length := by omega
      have HE := hid (show l.take k = l by rw [e]; exact List.take_length)
      have e2 : (k : Int) = (l.length : Int) := by omega
      go_wp2
      go_ret
      exact ⟨⟨-1, rfl, by rw [← HE.out, HW.out]; simp⟩, rfl⟩

theorem contains_any (w : World) (v : Value) (l : List Nat) (j : Nat) (hr : RdV w v (l.map uv)) :
    Calls Try.prog 63 #[v, .int .u32 (j : Nat)] w fun e w' => e = .returned (.bool (l.contains j)) ∧ w = w' := by
  have HR := hid hr
  clear hr
  go_enter Try.func63, Try.ntmps63
  go_wp2_with fail
  refine (index_any w v l j HR.out).mono ?_
  rintro e w' ⟨⟨i, rfl, hi⟩, rfl⟩
  have HI := hid hi
  clear hi
  go_wp2
  go_ret
  exact ⟨by rw [← HI.out]; rfl, rfl⟩

/-- A row's jobs, by their least nodes. -/
def jobs (f : Nat → Nat) (l : List Nat) : List Nat := l.foldl (fun a k => if a.contains (f k) then a else a ++ [f k]) []
theorem jobs_snoc (f : Nat → Nat) (l : List Nat) (k : Nat) : jobs f (l ++ [k]) = if (jobs f l).contains (f k) then jobs f l else jobs f l ++ [f k] := by
  unfold jobs; rw [List.foldl_append]; rfl
theorem jobs_len' (f : Nat → Nat) (l : List Nat) : ∀ a : List Nat, (l.foldl (fun a k => if a.contains (f k) then a else a ++ [f k]) a).length ≤ a.length + l.length := by
  induction l with
  | nil => exact fun a => Nat.le_refl _
  | cons k l ih =>
    intro a
    rw [List.foldl_cons]
    refine Nat.le_trans (ih _) ?_
    split
    · rw [List.length_cons]; omega
    · simp only [List.length_append, List.length_cons, List.length_nil]; omega
theorem jobs_len (f : Nat → Nat) (l : List Nat) : (jobs f l).length ≤ l.length := by
  have := jobs_len' f l []
  simpa [jobs] using this
def Mx.row (m : Mx) (row : Nat) : List Nat := jobs (fun k => m.c (16 * row + k)) (m.at fun k => m.c (16 * row + k) != 0)

set_option maxRecDepth 100000 in
set_option maxHeartbeats 4000000 in
theorem row_any (w : World) (b row : Nat) (m : Mx) (h : MxAt w b m) (hrow : row < m.r) :
    Calls Try.prog 47 #[.pointer (some ⟨b, 0, none⟩), .int .i64 row] w fun e w' => ∃ v, e = .returned v ∧ w'.ownsRow w.heap.size 33 1 v (m.row row).length ((m.row row).map uv) ∧ (v = .slice none 0 0 ↔ m.row row = []) ∧ Below w.heap.size w w' := by
  obtain ⟨i0, hi0, hz0, hz1, hz2⟩ := info_parts Try.infoU32
  have hr8 := h.r8
  have hn16 := h.n16
  have HH := hid h
  have HB := hid h.lt
  clear h
  have hmx : Try.prog.follows .mixedOrders = true := by kernel_rfl
  refine (callsIn_wide (n := 5)).1 ?_
  refine callsIn_of_wp_marks Try.func47 rfl trivial ?_ rfl
  simp only [Try.ntmps47, List.size_toArray, List.length_cons, List.length_nil, Nat.reduceAdd, Nat.reduceSub, Array.replicate_succ, Array.replicate_zero, List.push_toArray, List.append_toArray, List.nil_append, List.cons_append]
  have h1 : Below w.heap.size w ((w.alloc (.cells #[.pointer (some ⟨b, 0, none⟩)] 24)).alloc (.cells #[.int .i64 row] 3)) := ((Below.refl _ w).alloc (Nat.le_refl _) _).alloc (by simp) _
  have HB1 := hid h1
  gi_wp2_with fail
  refine ⟨trivial, (callsIn_wide.2 (hasrow_yes _ b m row (HH.out.below h1 HB.out) hrow)).mono ?_⟩
  rintro e w' ⟨rfl, rfl⟩
  have A1 := (Boxed.new w 24 (.pointer (some ⟨b, 0, none⟩))).alloc (.cells #[.int .i64 row] 3)
  have A2 := Boxed.new (w.alloc (.cells #[.pointer (some ⟨b, 0, none⟩)] 24)) 3 (.int .i64 row)
  have hs0 : ((w.alloc (.cells #[.pointer (some ⟨b, 0, none⟩)] 24)).alloc (.cells #[.int .i64 row] 3)).heap.size = w.heap.size + 2 := by simp
  rw [World.size_alloc] at A2
  have A3 := Boxed.new ((w.alloc (.cells #[.pointer (some ⟨b, 0, none⟩)] 24)).alloc (.cells #[.int .i64 row] 3)) 60 (.slice none 0 0)
  rw [hs0] at A3
  have HA1 := hid A1
  have HA2 := hid A2
  have HA3 := hid A3
  have HS := hid hs0
  clear h1 A1 A2 A3 hs0
  gi_wp2_with fail
  have h2 : Below w.heap.size w (((w.alloc (.cells #[.pointer (some ⟨b, 0, none⟩)] 24)).alloc (.cells #[.int .i64 row] 3)).alloc (.cells #[.slice none 0 0] 60)) := HB1.out.alloc (by have := HS.out; omega) _
  have HB2 := hid h2
  have HS2 := hid (show (((w.alloc (.cells #[.pointer (some ⟨b, 0, none⟩)] 24)).alloc (.cells #[.int .i64 row] 3)).alloc (.cells #[.slice none 0 0] 60)).heap.size = w.heap.size + 3 by simp)
  refine ⟨trivial, (callsIn_wide.2 (taken_seqF _ w.heap.size b row m (HH.out.below h2 HB.out) hrow HB.out (by have := HS2.out; omega))).mono ?_⟩
  rintro e w1 ⟨lb, rfl, hb1, hg⟩
  have HB3 := hid hb1
  have HG := hid hg
  have hs1 := hb1.size
  rw [HS2.out] at hs1
  clear hb1 hg h2
  have D1 := hid (show Boxed w1 w.heap.size 24 (.pointer (some ⟨b, 0, none⟩)) from (HB3.out.block w.heap.size (by have := HS2.out; omega)).trans (HA1.out.alloc _))
  have D2 := hid (show Boxed w1 (w.heap.size + 1) 3 (.int .i64 row) from (HB3.out.block (w.heap.size + 1) (by have := HS2.out; omega)).trans (HA2.out.alloc _))
  have D3 := hid (show Boxed w1 (w.heap.size + 2) 60 (.slice none 0 0) from (HB3.out.block (w.heap.size + 2) (by have := HS2.out; omega)).trans HA3.out)
  gi_wp2
  refine wpIn_rangeFunc_ownG rfl (by omega) (gf := 84) (lb := lb) rfl trivial (enters_of Try.func84 (by kernel_rfl) rfl)
    (HG.out 4) (fun h k => Keeps.trans h k) (kp_b (by omega) (Nat.le_refl _)) (Below.refl _ _) (fun _ => rfl)
    (fun pre W => (((∃ v, Boxed W (w.heap.size + 2) 60 v ∧ W.ownsRow w1.heap.size 33 1 v (jobs (fun k => m.c (16 * row + k)) (pre.map Fin.val)).length ((jobs (fun k => m.c (16 * row + k)) (pre.map Fin.val)).map uv) ∧ (v = .slice none 0 0 ↔ jobs (fun k => m.c (16 * row + k)) (pre.map Fin.val) = [])) ∧ Boxed W w.heap.size 24 (.pointer (some ⟨b, 0, none⟩))) ∧ Boxed W (w.heap.size + 1) 3 (.int .i64 row)) ∧ Below w.heap.size w1 W)
    (fun c pre W => False)
    (OwnFrom.and (OwnFrom.and (OwnFrom.and (Own.from (holdsRow_own w1.heap.size (w.heap.size + 2) 60 33 1 (fun pre : List (Fin 16) => (jobs (fun k => m.c (16 * row + k)) (pre.map Fin.val)).length) (fun pre => (jobs (fun k => m.c (16 * row + k)) (pre.map Fin.val)).map uv) (fun pre v => v = .slice none 0 0 ↔ jobs (fun k => m.c (16 * row + k)) (pre.map Fin.val) = [])) _) (Own.from (boxed_own w.heap.size 24 (fun _ => .pointer (some ⟨b, 0, none⟩))) _)) (Own.from (boxed_own (w.heap.size + 1) 3 (fun _ => .int .i64 row)) _)) (ownFrom_below (by omega) (by omega)))
    (fun _ _ _ _ _ hs _ _ => hs)
    ⟨⟨⟨⟨_, D3.out, World.ownsRow_nil _ _ _ _, by simp [jobs]⟩, D1.out⟩, D2.out⟩, Below.refl _ _⟩
    (fun x : Fin 16 => { tmps := #[.pointer (some ⟨b, 0, none⟩), .int .i64 row, .pointer (some ⟨w.heap.size, 0, none⟩), .pointer (some ⟨w.heap.size + 1, 0, none⟩), .slice none 0 0, .pointer (some ⟨w.heap.size + 2, 0, none⟩), .int .i64 (x.val : Nat), undef, .pointer (some ⟨b, 0, none⟩), .int .i64 row, .bool true, .bool false, .pointer (some ⟨b, 0, none⟩), .int .i64 row, .func (.func 84) #[] lb, .int .i64 (x.val : Nat), undef, undef, undef, undef, undef, undef, undef, undef, undef, undef, undef, undef, undef, undef, undef, undef, undef], defers := [] }) ?assign ?body ?done ?stop
  case assign =>
    intro l x W K hK
    gi_wp2
    exact hK
  case body =>
    rintro l pre x W ⟨⟨⟨⟨v, hv, hrow', hnil⟩, hb1⟩, hb2⟩, hB⟩ hlt
    obtain ⟨x, hx⟩ := x
    have hc1 := hb1.cell
    have hc2 := hb2.cell
    have hxx : (x : Int) < 16 := by omega
    have hrr : (row : Int) < 8 := by omega
    have hm := HH.out.below (HB2.out.trans ((HB3.out.mono (by have := HS2.out; omega)).trans hB)) HB.out
    have hcell := hm.cc (row * 16 + x) (by omega)
    rw [show 2 + (row * 16 + x) = 2 + row * 16 + x by omega, show row * 16 + x = 16 * row + x by omega] at hcell
    obtain ⟨ad, cp, rfl, hcl, hcm⟩ := (RdV.of_own hrow').len
    rw [List.length_map] at hcl hv hrow' hnil
    have hcv := hv.cell
    have HV := hid hv
    have HR := hid hrow'
    have HN := hid hnil
    have HBB := hid hB
    have HBK1 := hid hb1
    have hsW : w1.heap.size ≤ W.heap.size := hB.size
    have hjl : (jobs (fun k => m.c (16 * row + k)) (pre.map Fin.val)).length ≤ 16 := by have := jobs_len (fun k => m.c (16 * row + k)) (pre.map Fin.val); rw [List.length_map] at this; omega
    have HRD := hid (show RdV W.drew _ _ from RdV.of_own hrow')
    have HBK2 := hid hb2
    clear hv hrow' hnil hB hb1 hb2 hm
    gi_wp2
    gi_region_with_o (fail)
    all_goals
      gi_wp2_with fail
      refine ⟨trivial, (CallsIn.inRound l (callsIn_wide.2 (contains_any W.drew _ (jobs (fun k => m.c (16 * row + k)) (pre.map Fin.val)) (m.c (16 * row + x)) (HRD.out)))).mono ?_⟩
      rintro e w2 ⟨rfl, rfl⟩
      cases hcb : (jobs (fun k => m.c (16 * row + k)) (pre.map Fin.val)).contains (m.c (16 * row + x)) with
      | true =>
        have HJ := hid (show jobs (fun k => m.c (16 * row + k)) ((pre ++ [(⟨x, hx⟩ : Fin 16)]).map Fin.val) = jobs (fun k => m.c (16 * row + k)) (pre.map Fin.val) by
          rw [List.map_append, List.map_singleton, jobs_snoc, hcb, if_pos rfl])
        clear hcb
        gi_wp2
        exact ⟨(KeepsOthers.drew _).from _, ⟨rfl, rfl, rfl, Nat.le_refl _, fun _ _ _ => rfl⟩, ⟨⟨⟨_, HV.out, by rw [HJ.out]; exact HR.out, by rw [HJ.out]; exact HN.out⟩, HBK1.out⟩, HBK2.out⟩, HBB.out.drew⟩
      | false =>
        have HJ := hid (show jobs (fun k => m.c (16 * row + k)) ((pre ++ [(⟨x, hx⟩ : Fin 16)]).map Fin.val) = jobs (fun k => m.c (16 * row + k)) (pre.map Fin.val) ++ [m.c (16 * row + x)] by
          rw [List.map_append, List.map_singleton, jobs_snoc, hcb, if_neg (by simp)])
        clear hcb
        gi_wp2_with (gi_at_builtin; refine wpListIn_append_own _ rfl _ _ 60 rfl w1.heap.size 33 i0 (.int .u32 0) 1 4 Try.underlying60 hi0 hz0 hz1 hz2 rfl (by decide) _ _ _ rfl (HR.out.alloc _) ⟨W.heap.size, 0, none⟩ 1 1 [.int .u32 (m.c (16 * row + x) : Nat)] rfl rfl (cell_one_new _ _ _) (by simp [Value.oneCell']) (by unfold maxLen; omega) (by omega) (by simp; omega) ?_; intro v' w2 hown' hgrow _; obtain ⟨g', cap', rfl⟩ := ownsRow_succ hown'; obtain ⟨hv1, hv2, hr2, hk2, hbk2⟩ := boxed_appended (W := W.drew) HV.out (by decide) HR.out (by show w1.heap.size ≤ W.heap.size; omega) hown' hgrow; have hc3 := hv1.cell; have hf3 := hv1.frozen; have HK2 := hid hk2; have HB4 := hid hbk2; have HV2 := hid hv2; have HR2 := hid hr2; have HG2 := hid hgrow; clear hk2 hbk2 hv2 hr2 hgrow hv1 hown')
        exact ⟨((KeepsOthers.drew _).trans HK2.out).from _, (Keeps.refl _ W).drew.trans (HB4.out.mono (fun i _ hi => by unfold Apart; have := HS2.out; omega)), ⟨⟨⟨_, HV2.out, by rw [HJ.out]; simpa [uv] using HR2.out, by rw [HJ.out]; simp⟩, (show Boxed _ _ _ _ from HB4.out.block' HBK1.out (by omega))⟩, (show Boxed _ _ _ _ from HB4.out.block' HBK2.out (by omega))⟩, HBB.out.drew.trans (HB4.out.below (by show w.heap.size ≤ W.heap.size; omega) (fun i hi => by omega))⟩
  case done =>
    rintro D ys W hD rfl ⟨⟨⟨⟨v, hv, hrow', hnil⟩, hbk⟩, hb2⟩, hB⟩ hD2
    have hc := hv.cell
    have HV := hid hv
    have HR := hid hrow'
    have HN := hid hnil
    have HBB := hid hB
    clear hv hrow' hnil hbk hB hb2
    gi_wp2
    refine ⟨by simp, .inl ⟨_, _, rfl, run_takeDeferred hD2, ?_⟩⟩
    have hid2 := nd_map (at_lt (m := m) (p := fun k => m.c (16 * row + k) != 0) hn16)
    rw [hid2] at HR HN
    exact ⟨_, results_tmp rfl _ _ _, v, rfl, owns_base (ownsRow_putObj HR.out _ hD2 rfl) (by omega), HN.out, (HB2.out.trans (HB3.out.mono (by have := HS2.out; omega))).trans (HBB.out.trans (belowK_b (w := w) (Nat.le_refl _) W D _ _ (by omega) hD2 rfl rfl))⟩
  case stop =>
    rintro D c pre W hD hpre h hD2
    exact h.elim

end Go.Proofs.Ytdongghjchnpbaa
