/-
  P14.1: nobody could start sooner.
  (The frame behind the walk is the guide's shell, at these parameters.)
-/
import Derived.Test.YtecojmpiaaehlaaRows
import Derived.WalkKit
import Derived.Test.YtecojmpiaaehlaaLwC
import Derived.Test.YtecojmpiaaehlaaPlZ
import Derived.Test.YtecojmpiaaehlaaPlH
import Derived.Test.YtecojmpiaaehlaaRfA
import Derived.ProofKit
import Derived.Deep.Cut
import Derived.Deep.CutRange
import Derived.Deep.CutBlock
import Derived.Deep.Grids
import Derived.OpenShut
import Derived.ShutString
import Derived.ChangeOld
import Derived.Below
namespace Go.Proofs.Ytecojmpiaaehlaa.planSoon
open Go.ChangeShapes Go.WideShapes Go.ChangeAt Go.RowKit
open Go.ChangeMaps (open_string shut_string)
set_option linter.unusedVariables false

theorem own : ownKnob Try.prog.godebug = none := by kernel_rfl
theorem laidOut : laidOutB Try.prog = true := by kernel_rfl

theorem found_len {p : List (List Nat)} {K : Int} {t r : Nat} {ns : List Nat} (h : first p K = some (t, r, ns)) : ns.length ≤ (p.getD r []).length := by
  obtain ⟨hr, k, -, hk, hT, hns⟩ := first_row h
  rw [hns]
  unfold sel selTo
  exact Nat.le_trans (List.length_filter_le _ _) (by simp)
theorem bnd_row {P : List (List Int)} (h : ∀ r ∈ P, r.length ≤ 20) (r : Nat) : ((bndP P).getD r []).length ≤ 20 := by
  rw [List.getD_eq_getElem?_getD]
  unfold bndP
  rw [List.getElem?_map]
  cases hr : P[r]? with
  | none => simp
  | some l => simpa [bndL] using h l (List.mem_of_getElem? hr)
theorem found_20 {P : List (List Int)} (h : ∀ r ∈ P, r.length ≤ 20) (K : Int) : (stN (first (bndP P) K)).length ≤ 20 := by
  cases hf : first (bndP P) K with
  | none => simp [stN]
  | some s => obtain ⟨t, r, ns⟩ := s; exact Nat.le_trans (found_len hf) (bnd_row h r)
/-- In wx lies, in a block made since x, the start s that v points to. -/
def Started (x wx : World) (v : Value) (s : Found) : Prop :=
  ∃ g ua uc, v = .pointer (some ⟨g, 0, none⟩) ∧ x.heap.size ≤ g ∧ wx.heap[g]? = some (.cells #[.int .i64 (stA s : Nat), .int .i64 (stR s : Nat), .slice ua (stN s).length uc, .bool s.isSome] 32 (0, 0)) ∧ wx.ownsRow x.heap.size 3 1 (.slice ua (stN s).length uc) (stN s).length ((stN s).map iv) ∧ Below x.heap.size x wx
theorem set4_cell (w : World) (g q o : Nat) (A B C D : Value) (h : q ≠ g) : (set4 w g A B C D).cell? ⟨q, o, none⟩ = w.cell? ⟨q, o, none⟩ := World.cell?_of_block (w := w) (set4_other w g q A B C D h)
theorem alloc_cell (w : World) (q o : Nat) (c : Obj) (h : q < w.heap.size) : (w.alloc c).cell? ⟨q, o, none⟩ = w.cell? ⟨q, o, none⟩ := ((Below.refl _ _).alloc (Nat.le_refl _) c).cell (p := ⟨q, o, none⟩) h
theorem alloc_cell_d (w : World) (q o : Nat) (c : Obj) (h : q < w.heap.size) : (w.alloc c).drew.cell? ⟨q, o, none⟩ = w.drew.cell? ⟨q, o, none⟩ := ((Below.refl _ _).alloc (Nat.le_refl _) c).cell (p := ⟨q, o, none⟩) h
theorem zlt {w : World} {g : Nat} {o : Obj} (h : w.heap[g]? = some o) : g < w.heap.size := (Array.getElem?_eq_some_iff.1 h).1
abbrev Zero4 (w : World) (g : Nat) : Prop := w.heap[g]? = some (.cells #[.int .i64 0, .int .i64 0, .slice none 0 0, .bool false] 32 (0, 0))
theorem zero4 {w : World} {g : Nat} (h : Zero4 w g) : w.cell? ⟨g, 0, none⟩ = some (.int .i64 0) ∧ w.cell? ⟨g, 1, none⟩ = some (.int .i64 0) ∧ w.cell? ⟨g, 2, none⟩ = some (.slice none 0 0) ∧ w.cell? ⟨g, 3, none⟩ = some (.bool false) ∧
    w.frozen? ⟨g, 0, none⟩ = false ∧ w.frozen? ⟨g, 1, none⟩ = false ∧ w.frozen? ⟨g, 2, none⟩ = false ∧ w.frozen? ⟨g, 3, none⟩ = false :=
  ⟨(cell_of_row w _ _ _ _ _ h).trans rfl, (cell_of_row w _ _ _ _ _ h).trans rfl, (cell_of_row w _ _ _ _ _ h).trans rfl, (cell_of_row w _ _ _ _ _ h).trans rfl, frozen_of_row _ _ _ _ _ h, frozen_of_row _ _ _ _ _ h, frozen_of_row _ _ _ _ _ h, frozen_of_row _ _ _ _ _ h⟩
theorem started_a {x q : World} {s : Found} {ua : Option Addr} {uc lo b : Nat} (hb : x.heap.size ≤ b) (hl : b < lo) (hg : Zero4 q b) (hq : Below x.heap.size x q)
    (ho : q.ownsRow lo 3 1 (.slice ua (stN s).length uc) (stN s).length ((stN s).map iv)) :
    Started x (set4 q b (.int .i64 (stA s : Nat)) (.int .i64 (stR s : Nat)) (.slice ua (stN s).length uc) (.bool s.isSome)) (.pointer (some ⟨b, 0, none⟩)) s :=
  ⟨_, _, _, rfl, hb, set4_heap _ _ _ _ hg, owns_base (owns_by ho fun c hc => set4_other _ _ _ _ _ _ _ (by have := (World.ownsRow.lt ho c hc).1; omega)) (by omega), set4_below hq _ _ _ _ _ hb⟩
theorem started_b {x q : World} {s : Found} {ua : Option Addr} {uc : Nat} {b : Nat} (hb : x.heap.size ≤ b) (hq : Below x.heap.size x q) (ho : q.ownsRow b 3 1 (.slice ua (stN s).length uc) (stN s).length ((stN s).map iv)) :
    Started x (q.alloc (.cells #[.int .i64 (stA s : Nat), .int .i64 (stR s : Nat), .slice ua (stN s).length uc, .bool s.isSome] 32)) (.pointer (some ⟨q.heap.size, 0, none⟩)) s := by
  have hs := hq.size
  refine ⟨_, _, _, rfl, hs, heap_alloc_new _ _, ?_, hq.alloc hs _⟩
  exact owns_base (owns_below ho ((Below.refl _ _).alloc (Nat.le_refl _) _)) hb
theorem soon {p : List (List Nat)} {K : Int} {T j : Nat} (h : (∃ t i ns, first p K = some (t, i, ns) ∧ T < t) ∨ first p K = none) (hj : j < p.length) (hK : 1 ≤ K) : (cnt (p.getD j []) T : Int) < K := by
  obtain ⟨k, rfl⟩ := Int.eq_ofNat_of_zero_le (show 0 ≤ K by omega)
  rcases h with ⟨t, i, ns, h, ht⟩ | h
  · obtain ⟨k', hk', hk, hb, -⟩ := first_some.1 h
    have : k = k' := by omega
    subst this
    by_cases hc : k ≤ cnt (p.getD j []) T
    · obtain ⟨u, hu, hle⟩ := rowT_le hk hc
      have := (bestTo_some.1 hb).2.2.1 j u hj hu
      omega
    · omega
  · rcases first_none.1 h with h | h
    · omega
    · have h1 := h j hj
      have h2 := cnt_len (p.getD j []) T
      rw [Int.toNat_natCast] at h1
      omega
theorem cnt_snoc (l : List Nat) (c t : Nat) : cnt (l ++ [c]) t = cnt l t + (if c ≤ t then 1 else 0) := by
  unfold cnt
  rw [List.filter_append, List.length_append]
  by_cases h : c ≤ t
  · rw [if_pos h, List.filter_cons_of_pos (by simpa using h)]; rfl
  · rw [if_neg h, List.filter_cons_of_neg (by simpa using h)]; rfl
theorem stA_top (P : List (List Int)) (K : Int) : stA (first (bndP P) K) ≤ 1099511627776 := by
  cases hf : first (bndP P) K with
  | none => exact Nat.zero_le _
  | some s =>
    obtain ⟨t, i, ns⟩ := s
    obtain ⟨-, k, -, -, hT, -⟩ := first_row hf
    exact (bndP_top P).at hT
theorem bnd_cmp (x : Int) (T : Nat) : (max 0 (min x 1099511627776) ≤ (T : Int)) ↔ bnd x ≤ T := by
  unfold bnd topN
  omega
set_option maxRecDepth 100000 in
set_option maxHeartbeats 8000000 in
theorem walk (a0 : Option Addr) (len0 cap0 : Nat) (v1 : Value) (a2 : Int) (w : World) (w0 : IsMatI w a0 len0 cap0) (w1 : IsAsk w v1) (w2 : (Lit.int .u8 a2).wf = true) :
    Calls Try.prog 8 #[.slice a0 len0 cap0, v1, .int .u8 a2] w fun e w' => e = .returned (.bool true) ∧ Below w.heap.size w w' := by
  obtain ⟨ts, hraw⟩ := w0.raw
  obtain ⟨k1, n1, rfl⟩ := w1
  have bd := bounds_u8 w2
  obtain ⟨so, rfl⟩ := Int.eq_ofNat_of_zero_le (show 0 ≤ a2 by omega)
  have hso : so < 256 := by omega
  obtain ⟨ht10, ht20⟩ := raw_take hraw
  have HR := hid hraw
  have HT10 := hid ht10
  have HT20 := hid ht20
  have HPROF := hid (fun w' (h : Below w.heap.size w w') => profile_any w' a0 len0 cap0 ts (HR.out.all h))
  have HFEW := hid (fun w' (h : Below w.heap.size w w') => few_any w' a0 len0 cap0 ts (HR.out.all h))
  clear w0 w2 bd hraw ht10 ht20 HR
  generalize ts.take 10 = P at *
  have HF := hid (fun (w8 : World) (v8 : Value) (k n : Int) (h : RdP w8 v8 P) => xfirst_any w8 v8 P k n h (by have := HT10.out; omega) (fun r hr => by have := HT20.out r hr; omega))
  go_enter Try.func8, Try.ntmps8
  go_wp2_with fail
  obtain ⟨x1, hx1⟩ : ∃ x1, x1 = w.alloc (.cells #[.int .i64 k1, .int .i64 n1] 24) := ⟨_, rfl⟩
  have hs1 : x1.heap.size = w.heap.size + 1 := by rw [hx1]; simp
  have hb1 : Below w.heap.size w x1 := by rw [hx1]; exact (Below.refl _ w).alloc (Nat.le_refl _) _
  have HG1 := hid (show x1.heap[w.heap.size]? = some (.cells #[.int .i64 k1, .int .i64 n1] 24 (0, 0)) by rw [hx1]; exact heap_alloc_new w _)
  have HB1 := hid hb1
  rw [← hx1]
  clear hx1 hb1
  refine (awake14_any x1).mono ?_
  rintro e xa ⟨rfl, hba⟩
  have hsa : w.heap.size + 1 ≤ xa.heap.size := by have := hba.size; omega
  have HBa := hid (HB1.out.trans (hba.mono (by omega)))
  have HA1a := hid ((hba.block _ (by omega)).trans HG1.out)
  clear hba hs1 HB1 HG1
  go_wp2_with fail
  obtain ⟨s1, hS1⟩ : ∃ s, s = first (bndP P) k1 := ⟨_, rfl⟩
  have HS1 := hid hS1
  clear hS1
  have HF1 := hid (fun w8 v8 h => by have := HF.out w8 v8 k1 n1 h; rw [← HS1.out] at this; exact this)
  go_cut [7] from 16 to 19 (fun v wx => Started xa wx v s1)
  case first =>
    have hsx : w.heap.size + 1 ≤ xa.heap.size := hsa
    have d0 : xa.cell? ⟨w.heap.size, 0, none⟩ = some (.int .i64 k1) := (cell_of_row xa _ _ _ _ _ HA1a.out).trans rfl
    have D0 : xa.drew.cell? ⟨w.heap.size, 0, none⟩ = some (.int .i64 k1) := d0
    have d1 : xa.cell? ⟨w.heap.size, 1, none⟩ = some (.int .i64 n1) := (cell_of_row xa _ _ _ _ _ HA1a.out).trans rfl
    have D1 : xa.drew.cell? ⟨w.heap.size, 1, none⟩ = some (.int .i64 n1) := d1
    have HK1 := hid (fun w8 (hb : Below xa.heap.size xa w8) => HPROF.out w8 (HBa.out.trans (hb.mono (by omega))))
    go_region_held3 (fun w' => w'.cell? ⟨w.heap.size, 0, none⟩ = some (.int .i64 k1) ∧ w'.cell? ⟨w.heap.size, 1, none⟩ = some (.int .i64 n1))
      (first | (with_reducible refine ⟨?_, ?_⟩ <;> assumption) | (with_reducible refine ⟨(alloc_cell _ _ _ _ ?_).trans ?_, (alloc_cell _ _ _ _ ?_).trans ?_⟩ <;> first | assumption | omega) | (with_reducible refine ⟨(alloc_cell_d _ _ _ _ ?_).trans ?_, (alloc_cell_d _ _ _ _ ?_).trans ?_⟩ <;> first | assumption | omega) | (with_reducible refine ⟨(set4_cell _ _ _ _ _ _ _ _ ?_).trans ?_, (set4_cell _ _ _ _ _ _ _ _ ?_).trans ?_⟩ <;> first | assumption | omega) | fail)
      (first
        | (go_at_call 12; (with_reducible refine (HK1.out _ (Below.refl _ _).drew).mono ?_); rintro e y1 ⟨v4, rfl, hv4, hb1⟩; have hsz : xa.heap.size ≤ y1.heap.size := hb1.size; have hp1 : Below xa.heap.size xa y1 := (Below.refl _ _).drew.trans hb1; have HNA := hid (show True from trivial); have hq1 : Below xa.heap.size xa y1 := hp1; have r10 := (hp1.cell (p := ⟨w.heap.size, 0, none⟩) (by show w.heap.size < _; omega)).trans d0; have r11 := (hp1.cell (p := ⟨w.heap.size, 1, none⟩) (by show w.heap.size < _; omega)).trans d1; obtain ⟨va4, vc4, rfl, hv41, hv42⟩ := hv4.len; have HK2 := hid (fun w8 (hb : Below y1.heap.size y1 w8) => HF1.out w8 _ (hv4.all hb)); clear hb1 hp1)
        | (go_at_call 12; (with_reducible refine (HK1.out _ ((Below.refl _ _).alloc (Nat.le_refl _) _).drew).mono ?_); rintro e y1 ⟨v4, rfl, hv4, hb1⟩; have hsz : xa.heap.size + 1 ≤ y1.heap.size := (by have := hb1.size; first | (rw [World.size_alloc] at this; exact this) | (rw [show ∀ c, (xa.alloc c).drew.heap.size = xa.heap.size + 1 from fun c => World.size_alloc _ _] at this; exact this)); have hp1 : Below xa.heap.size xa y1 := ((Below.refl _ _).alloc (Nat.le_refl _) _).drew.trans (hb1.mono (by first | (rw [World.size_alloc]; omega) | (show _ ≤ (xa.alloc _).heap.size; rw [World.size_alloc]; omega))); have hz : Zero4 y1 xa.heap.size := (hb1.block _ (by show _ < (xa.alloc _).heap.size; rw [World.size_alloc]; omega)).trans (heap_alloc_new _ _); have HZ := hid hz; have HZX := hid (show xa.heap.size ≤ xa.heap.size by omega); have HZL := hid (show xa.heap.size < y1.heap.size by omega); have hq1 : Below xa.heap.size xa y1 := hp1; have r10 := (hp1.cell (p := ⟨w.heap.size, 0, none⟩) (by show w.heap.size < _; omega)).trans d0; have r11 := (hp1.cell (p := ⟨w.heap.size, 1, none⟩) (by show w.heap.size < _; omega)).trans d1; obtain ⟨va4, vc4, rfl, hv41, hv42⟩ := hv4.len; have HK2 := hid (fun w8 (hb : Below y1.heap.size y1 w8) => HF1.out w8 _ (hv4.all hb)); clear hb1 hp1)
        | (go_at_call 14; have HZO := HZ; (with_reducible refine (HK2.out _ (Below.refl _ _)).mono ?_); rintro e y2 ⟨u5, rfl, ho5, hb2⟩; have hsz : y1.heap.size ≤ y2.heap.size := hb2.size; have hp2 : Below y1.heap.size y1 y2 := hb2; have HZ := hid (show Zero4 y2 _ from (hb2.block _ (zlt HZO.out)).trans HZO.out); clear HZO; have hq2 : Below xa.heap.size xa y2 := hq1.trans (hp2.mono (by omega)); have r20 := (hp2.cell (p := ⟨w.heap.size, 0, none⟩) (by show w.heap.size < _; omega)).trans r10; have r21 := (hp2.cell (p := ⟨w.heap.size, 1, none⟩) (by show w.heap.size < _; omega)).trans r11; obtain ⟨ua, uc, ex, hu51, hu52⟩ := owns_slice ho5; subst ex; obtain ⟨m0, m1, m2, m3, f0, f1, f2, f3⟩ := zero4 HZ.out; have HST := hid (started_a (x := xa) (s := s1) HZX.out (by have := HZL.out; omega) HZ.out hq2 ho5); clear ho5; clear hb2 hp2)
        | (go_at_call 14; have HNO := HNA; (with_reducible refine (HK2.out _ (Below.refl _ _)).mono ?_); rintro e y2 ⟨u5, rfl, ho5, hb2⟩; have hsz : y1.heap.size ≤ y2.heap.size := hb2.size; have hp2 : Below y1.heap.size y1 y2 := hb2; have HNA := hid (show True from trivial); have hq2 : Below xa.heap.size xa y2 := hq1.trans (hp2.mono (by omega)); have r20 := (hp2.cell (p := ⟨w.heap.size, 0, none⟩) (by show w.heap.size < _; omega)).trans r10; have r21 := (hp2.cell (p := ⟨w.heap.size, 1, none⟩) (by show w.heap.size < _; omega)).trans r11; obtain ⟨ua, uc, ex, hu51, hu52⟩ := owns_slice ho5; subst ex; have HST := hid (started_b (x := xa) (s := s1) (by omega) hq2 ho5); clear ho5; clear hb2 hp2)
        | (go_at_call 14; (with_reducible refine (HK2.out _ ((Below.refl _ _).alloc (Nat.le_refl _) _)).mono ?_); rintro e y2 ⟨u5, rfl, ho5, hb2⟩; have hsz : y1.heap.size + 1 ≤ y2.heap.size := (by have := hb2.size; first | (rw [World.size_alloc] at this; exact this) | (rw [show ∀ c, (y1.alloc c).drew.heap.size = y1.heap.size + 1 from fun c => World.size_alloc _ _] at this; exact this)); have hp2 : Below y1.heap.size y1 y2 := ((Below.refl _ _).alloc (Nat.le_refl _) _).trans (hb2.mono (by first | (rw [World.size_alloc]; omega) | (show _ ≤ (y1.alloc _).heap.size; rw [World.size_alloc]; omega))); have hz : Zero4 y2 y1.heap.size := (hb2.block _ (by show _ < (y1.alloc _).heap.size; rw [World.size_alloc]; omega)).trans (heap_alloc_new _ _); have HZ := hid hz; have HZX := hid (show xa.heap.size ≤ y1.heap.size by omega); have HZL := hid (show y1.heap.size < y2.heap.size by omega); have hq2 : Below xa.heap.size xa y2 := hq1.trans (hp2.mono (by omega)); have r20 := (hp2.cell (p := ⟨w.heap.size, 0, none⟩) (by show w.heap.size < _; omega)).trans r10; have r21 := (hp2.cell (p := ⟨w.heap.size, 1, none⟩) (by show w.heap.size < _; omega)).trans r11; obtain ⟨ua, uc, ex, hu51, hu52⟩ := owns_slice ho5; subst ex; have ho6 := owns_base ho5 (show y1.heap.size + 1 ≤ _ by first | (rw [World.size_alloc]; exact Nat.le_refl _) | (show _ ≤ (y1.alloc _).heap.size; rw [World.size_alloc]; exact Nat.le_refl _)); obtain ⟨m0, m1, m2, m3, f0, f1, f2, f3⟩ := zero4 HZ.out; have HST := hid (started_a (x := xa) (s := s1) HZX.out (Nat.lt_succ_self _) HZ.out hq2 ho6); clear ho6; clear ho5; clear hb2 hp2)
        | fail)
    all_goals (go_wp2_with fail; go_meet; case rel => exact HST.out)
  case rest =>
    obtain ⟨xb, hxb⟩ : ∃ x, x = wc := ⟨_, rfl⟩
    subst hxb
    obtain ⟨g1, ua1, uc1, rfl, hg1, hG1, hO1, hbb⟩ := hcut
    have HG1b := hid hG1
    have HO1b := hid hO1
    have HBb := hid (HBa.out.trans (hbb.mono (by omega)))
    have hgl1 : g1 < xb.heap.size := zlt hG1
    have hsb : w.heap.size + 1 ≤ xb.heap.size := by have := hbb.size; omega
    have hg1w : w.heap.size + 1 ≤ g1 := by omega
    have hn1 : (stN s1).length ≤ 20 := by rw [HS1.out]; exact found_20 HT20.out _
    have HA1b := hid ((hbb.block _ (by omega)).trans HA1a.out)
    clear hG1 hO1 hbb
    have c0 : xb.cell? ⟨g1, 0, none⟩ = some (.int .i64 (stA s1 : Nat)) := (cell_of_row _ _ _ _ _ _ HG1b.out).trans rfl
    have c3 : xb.cell? ⟨g1, 3, none⟩ = some (.bool s1.isSome) := (cell_of_row _ _ _ _ _ _ HG1b.out).trans rfl
    have hat : stA s1 ≤ 1099511627776 := by rw [HS1.out]; exact stA_top P k1
    obtain ⟨A, hA⟩ : ∃ A, A = stA s1 := ⟨_, rfl⟩
    obtain ⟨ok, hok⟩ : ∃ b, b = s1.isSome := ⟨_, rfl⟩
    have HAA := hid hA
    have HOK := hid hok
    rw [← hA] at c0 hat
    rw [← hok] at c3
    clear hA hok HG1b HO1b
    cases ok with
    | true =>
      by_cases hneg : (A : Int) - 1 - (so : Int) < 0
      · go_wp2
        go_ret
        exact ⟨rfl, HBb.out⟩
      · obtain ⟨T, hT⟩ := Int.eq_ofNat_of_zero_le (show 0 ≤ (A : Int) - 1 - (so : Int) by omega)
        have HSN := hid (show (∃ t i ns, first (bndP P) k1 = some (t, i, ns) ∧ T < t) ∨ first (bndP P) k1 = none from by
          have h1 := HAA.out
          have h2 := HOK.out
          rw [HS1.out] at h1 h2
          cases hf : first (bndP P) k1 with
          | none => exact .inr rfl
          | some s => obtain ⟨t, i, ns⟩ := s; rw [hf] at h1; exact .inl ⟨t, i, ns, rfl, by have : A = t := h1; omega⟩)
        have hTT := hid hT
        go_wp2_with fail
        refine (HFEW.out xb HBb.out).mono ?_
        rintro e xc ⟨v, rfl, hv, hbc⟩
        obtain ⟨va, vc, rfl, hv1, hv2⟩ := hv.len
        have HV := hid hv
        have HBc := hid (HBb.out.trans (hbc.mono (by omega)))
        have hsc := hbc.size
        have HA1c := hid ((hbc.block _ (by omega)).trans HA1b.out)
        clear hv hbc
        generalize hpl : P.length = pl at *
        have HPL := hid hpl
        clear hpl
        go_wp2_with fail
        go_loopw [38] (fun i wr => ∃ k : Nat, k ≤ pl ∧ i = .int .i64 k ∧ Below xc.heap.size xc wr) (fun i _ => pl - (intOf i).toNat)
        case atStart => exact ⟨0, Nat.zero_le _, rfl, Below.refl _ _⟩
        case round =>
          obtain ⟨wq, hwq⟩ : ∃ wq, wq = wr := ⟨_, rfl⟩
          subst hwq
          obtain ⟨k, hk, rfl, hB⟩ := hrel
          have HB := hid hB
          have hsr := hB.size
          by_cases hlt : k < pl
          · obtain ⟨r, hx⟩ : ∃ r, P[k]? = some r := ⟨_, List.getElem?_eq_getElem (by rw [HPL.out]; exact hlt)⟩
            obtain ⟨b, off, rfl, ra, rc, hcell, hrc1, hrc2, hrv⟩ := (HV.out.all hB).at k r hx
            have hki : (k : Int) < (pl : Int) := by omega
            have hr20 := HT20.out r (List.mem_of_getElem? hx)
            have HRV := hid hrv
            have HKK := hid (show 1 ≤ k1 → (cnt (bndL r) T : Int) < k1 from fun h1 => by
              have h2 := soon (p := bndP P) (j := k) HSN.out (by rw [bndP_len, HPL.out]; exact hlt) h1
              have h3 : (bndP P).getD k [] = bndL r := by rw [List.getD_eq_getElem?_getD]; unfold bndP; rw [List.getElem?_map, hx]; rfl
              rw [h3] at h2; exact h2)
            clear hrv hx hB
            generalize hrl : r.length = rl at *
            have HRL := hid hrl
            clear hrl
            go_wp2_with fail
            go_loopw [11, 44] (fun nv i w2 => ∃ j : Nat, j ≤ rl ∧ i = .int .i64 j ∧ nv = .int .i64 (cnt (bndL (r.take j)) T : Nat) ∧ Below wq.heap.size wq w2) (fun _ i _ => rl - (intOf i).toNat)
            case atStart => exact ⟨0, Nat.zero_le _, rfl, rfl, Below.refl _ _⟩
            case round =>
              obtain ⟨j, hj, rfl, rfl, hB2⟩ := hrel
              have HB2 := hid hB2
              have hs2 := hB2.size
              have hcl : cnt (bndL (r.take j)) T ≤ 20 := Nat.le_trans (cnt_len _ _) (by unfold bndL; rw [List.length_map, List.length_take]; omega)
              by_cases hjl : j < rl
              · obtain ⟨x, hx⟩ : ∃ x, r[j]? = some x := ⟨_, List.getElem?_eq_getElem (by rw [HRL.out]; exact hjl)⟩
                obtain ⟨-, g, o, rfl, -, hcx⟩ := (HRV.out.all (hB2.mono (Nat.le_refl _))).at j (iw x) (by rw [List.getElem?_map, hx]; rfl)
                have hcx' : wr.cell? ⟨g, o + j, none⟩ = some (.int .i64 x) := hcx
                clear hcx
                have hji : (j : Int) < (rl : Int) := by omega
                have hsn : cnt (bndL (r.take (j + 1))) T = cnt (bndL (r.take j)) T + (if bnd x ≤ T then 1 else 0) := by
                  have e : r.take (j + 1) = r.take j ++ [x] := by rw [List.take_add_one, hx]; rfl
                  rw [e]; unfold bndL; rw [List.map_append]; exact cnt_snoc _ _ _
                have HSN1 := hid hsn
                clear hx hsn
                generalize cnt (bndL (r.take j)) T = n at *
                by_cases hle : bnd x ≤ T
                · have hle' := (bnd_cmp x T).2 hle
                  rw [if_pos hle] at HSN1
                  clear hle
                  go_wp2
                  go_roundw
                  case rel => exact ⟨j + 1, hjl, by go_num, by rw [HSN1.out]; go_num, HB2.out⟩
                  case measure => simp [intOf]; omega
                · have hle' := mt (bnd_cmp x T).1 hle
                  rw [if_neg hle] at HSN1
                  clear hle
                  go_wp2
                  go_roundw
                  case rel => exact ⟨j + 1, hjl, by go_num, by rw [HSN1.out]; go_num, HB2.out⟩
                  case measure => simp [intOf]; omega
              · have e : j = rl := by omega
                have hji : ¬ (j : Int) < (rl : Int) := by omega
                have hfin : cnt (bndL (r.take j)) T = cnt (bndL r) T := by rw [List.take_of_length_le (by have := HRL.out; omega)]
                rw [hfin]
                rw [hfin] at hcl
                have HAC := hid ((hB2.block _ (by omega)).trans ((HB.out.block _ (by omega)).trans HA1c.out))
                have a0c : wr.cell? ⟨w.heap.size, 0, none⟩ = some (.int .i64 k1) := (cell_of_row _ _ _ _ _ _ HAC.out).trans rfl
                generalize cnt (bndL r) T = n at *
                clear hjl hfin hB2
                by_cases h1 : 1 ≤ k1
                · have h2 := HKK.out h1
                  have h3 : ¬ (n : Int) ≥ k1 := by omega
                  have h4 : k1 ≥ 1 := h1
                  go_wp2
                  go_roundw
                  case rel => exact ⟨k + 1, hlt, by go_num, HB.out.trans (HB2.out.mono hsr)⟩
                  case measure => simp [intOf]; omega
                · have h4 : ¬ k1 ≥ 1 := h1
                  go_wp2
                  go_roundw
                  case rel => exact ⟨k + 1, hlt, by go_num, HB.out.trans (HB2.out.mono hsr)⟩
                  case measure => simp [intOf]; omega
          · have e : k = pl := by omega
            have hki : ¬ (k : Int) < (pl : Int) := by omega
            clear hlt
            go_wp2
            go_ret
            exact ⟨rfl, HBc.out.trans (HB.out.mono (by omega))⟩
    | false =>
      have HSN := hid (show (∃ t i ns, first (bndP P) k1 = some (t, i, ns) ∧ 1099511627776 < t) ∨ first (bndP P) k1 = none from by
        have h2 := HOK.out
        rw [HS1.out] at h2
        cases hf : first (bndP P) k1 with
        | none => exact .inr rfl
        | some s => rw [hf] at h2; cases h2)
      go_wp2_with fail
      refine (HFEW.out xb HBb.out).mono ?_
      rintro e xc ⟨v, rfl, hv, hbc⟩
      obtain ⟨va, vc, rfl, hv1, hv2⟩ := hv.len
      have HV := hid hv
      have HBc := hid (HBb.out.trans (hbc.mono (by omega)))
      have hsc := hbc.size
      have HA1c := hid ((hbc.block _ (by omega)).trans HA1b.out)
      clear hv hbc
      generalize hpl : P.length = pl at *
      have HPL := hid hpl
      clear hpl
      go_wp2_with fail
      go_loopw [38] (fun i wr => ∃ k : Nat, k ≤ pl ∧ i = .int .i64 k ∧ Below xc.heap.size xc wr) (fun i _ => pl - (intOf i).toNat)
      case atStart => exact ⟨0, Nat.zero_le _, rfl, Below.refl _ _⟩
      case round =>
        obtain ⟨wq, hwq⟩ : ∃ wq, wq = wr := ⟨_, rfl⟩
        subst hwq
        obtain ⟨k, hk, rfl, hB⟩ := hrel
        have HB := hid hB
        have hsr := hB.size
        by_cases hlt : k < pl
        · obtain ⟨r, hx⟩ : ∃ r, P[k]? = some r := ⟨_, List.getElem?_eq_getElem (by rw [HPL.out]; exact hlt)⟩
          obtain ⟨b, off, rfl, ra, rc, hcell, hrc1, hrc2, hrv⟩ := (HV.out.all hB).at k r hx
          have hki : (k : Int) < (pl : Int) := by omega
          have hr20 := HT20.out r (List.mem_of_getElem? hx)
          have HRV := hid hrv
          have HKK := hid (show 1 ≤ k1 → (cnt (bndL r) 1099511627776 : Int) < k1 from fun h1 => by
            have h2 := soon (p := bndP P) (j := k) HSN.out (by rw [bndP_len, HPL.out]; exact hlt) h1
            have h3 : (bndP P).getD k [] = bndL r := by rw [List.getD_eq_getElem?_getD]; unfold bndP; rw [List.getElem?_map, hx]; rfl
            rw [h3] at h2; exact h2)
          clear hrv hx hB
          generalize hrl : r.length = rl at *
          have HRL := hid hrl
          clear hrl
          go_wp2_with fail
          go_loopw [11, 44] (fun nv i w2 => ∃ j : Nat, j ≤ rl ∧ i = .int .i64 j ∧ nv = .int .i64 (cnt (bndL (r.take j)) 1099511627776 : Nat) ∧ Below wq.heap.size wq w2) (fun _ i _ => rl - (intOf i).toNat)
          case atStart => exact ⟨0, Nat.zero_le _, rfl, rfl, Below.refl _ _⟩
          case round =>
            obtain ⟨j, hj, rfl, rfl, hB2⟩ := hrel
            have HB2 := hid hB2
            have hs2 := hB2.size
            have hcl : cnt (bndL (r.take j)) 1099511627776 ≤ 20 := Nat.le_trans (cnt_len _ _) (by unfold bndL; rw [List.length_map, List.length_take]; omega)
            by_cases hjl : j < rl
            · obtain ⟨x, hx⟩ : ∃ x, r[j]? = some x := ⟨_, List.getElem?_eq_getElem (by rw [HRL.out]; exact hjl)⟩
              obtain ⟨-, g, o, rfl, -, hcx⟩ := (HRV.out.all (hB2.mono (Nat.le_refl _))).at j (iw x) (by rw [List.getElem?_map, hx]; rfl)
              have hcx' : wr.cell? ⟨g, o + j, none⟩ = some (.int .i64 x) := hcx
              clear hcx
              have hji : (j : Int) < (rl : Int) := by omega
              have hsn : cnt (bndL (r.take (j + 1))) 1099511627776 = cnt (bndL (r.take j)) 1099511627776 + (if bnd x ≤ 1099511627776 then 1 else 0) := by
                have e : r.take (j + 1) = r.take j ++ [x] := by rw [List.take_add_one, hx]; rfl
                rw [e]; unfold bndL; rw [List.map_append]; exact cnt_snoc _ _ _
              have HSN1 := hid hsn
              clear hx hsn
              generalize cnt (bndL (r.take j)) 1099511627776 = n at *
              by_cases hle : bnd x ≤ 1099511627776
              · have hle' := (bnd_cmp x 1099511627776).2 hle
                rw [if_pos hle] at HSN1
                clear hle
                go_wp2
                go_roundw
                case rel => exact ⟨j + 1, hjl, by go_num, by rw [HSN1.out]; go_num, HB2.out⟩
                case measure => simp [intOf]; omega
              · exact absurd (bnd_le x) hle
            · have e : j = rl := by omega
              have hji : ¬ (j : Int) < (rl : Int) := by omega
              have hfin : cnt (bndL (r.take j)) 1099511627776 = cnt (bndL r) 1099511627776 := by rw [List.take_of_length_le (by have := HRL.out; omega)]
              rw [hfin]
              rw [hfin] at hcl
              have HAC := hid ((hB2.block _ (by omega)).trans ((HB.out.block _ (by omega)).trans HA1c.out))
              have a0c : wr.cell? ⟨w.heap.size, 0, none⟩ = some (.int .i64 k1) := (cell_of_row _ _ _ _ _ _ HAC.out).trans rfl
              generalize cnt (bndL r) 1099511627776 = n at *
              clear hjl hfin hB2
              by_cases h1 : 1 ≤ k1
              · have h2 := HKK.out h1
                have h3 : ¬ (n : Int) ≥ k1 := by omega
                have h4 : k1 ≥ 1 := h1
                go_wp2
                go_roundw
                case rel => exact ⟨k + 1, hlt, by go_num, HB.out.trans (HB2.out.mono hsr)⟩
                case measure => simp [intOf]; omega
              · have h4 : ¬ k1 ≥ 1 := h1
                go_wp2
                go_roundw
                case rel => exact ⟨k + 1, hlt, by go_num, HB.out.trans (HB2.out.mono hsr)⟩
                case measure => simp [intOf]; omega
        · have e : k = pl := by omega
          have hki : ¬ (k : Int) < (pl : Int) := by omega
          clear hlt
          go_wp2
          go_ret
          exact ⟨rfl, HBc.out.trans (HB.out.mono (by omega))⟩

/-! ### THE ROW's STEP -/
set_option maxRecDepth 100000 in
theorem lifted (os : Os) (started : os.Started) (H : Type) (enc : TypeId × Value → H) :
    ReturnsInHanded {} Try.checked os 8 .any (Rows.planSoonSpec.pre6 enc Try.prog Try.f8 Rows.planSoonRow.domain false) (Rows.planSoonSpec.post enc Try.prog Try.f8 false true false false) := by
  refine returnsInHanded_of_change (C := Try.checked) own started (by kernel_rfl) Try.func8
    (ChangeSpec.witness6 (enc := enc) (C := Try.checked) false ⟨#[], #[.slice none 0 0, .agg #[.int .i64 0, .int .i64 0], .int .u8 0], []⟩ 8 (by kernel_rfl) (by kernel_rfl) (by kernel_rfl) (by kernel_rfl)) ?_
  intro W base args ds gs before hval0 hW hcnd _
  have hval : ∀ (j : Nat) t v, Try.f8.params[j]? = some t → args[j]? = some v → Value.okWide Try.prog W .any base t v := hval0
  have hW' := hW
  obtain ⟨p, q, hA0, hV, rfl, hfz, hnd⟩ := hW
  have hA : DataW.TrodAll enc Try.prog W 0 (fun _ => true) true Try.f8.params.toList args.toList ds p := hA0
  rw [Try.params8] at hA hval
  obtain ⟨v0, vs0, d0, ds0, p0, q0, hargs, rfl, rfl, h0, r0⟩ := trodAll_cons hA
  obtain ⟨v1, vs1, d1, ds1, p1, q1, rfl, rfl, rfl, h1, r1⟩ := trodAll_cons r0
  obtain ⟨v2, vs2, d2, ds2, p2, q2, rfl, rfl, rfl, h2, r2⟩ := trodAll_cons r1
  obtain ⟨rfl, rfl, rfl⟩ := trodAll_nil r2
  obtain rfl : args = #[v0, v1, v2] := by cases args; simp_all
  obtain ⟨rfl, rfl⟩ := trodVars_none hV
  have k0 := h0
  have lt0 : ∀ x ∈ p0, x.block < W.heap.size := by obtain ⟨m, hm⟩ := k0; exact DataW.trod_lt m _ _ _ hm
  have k1 := h1
  have lt1 : ∀ x ∈ p1, x.block < W.heap.size := by obtain ⟨m, hm⟩ := k1; exact DataW.trod_lt m _ _ _ hm
  have k2 := h2
  have lt2 : ∀ x ∈ p2, x.block < W.heap.size := by obtain ⟨m, hm⟩ := k2; exact DataW.trod_lt m _ _ _ hm
  obtain ⟨a0, len0, cap0, rfl⟩ := okWide_slice Try.underlying22 (hval 0 22 v0 rfl rfl)
  have w0 : IsMatI W a0 len0 cap0 := isMatI_of h0
  have w1 : IsAsk W v1 := isAsk_of (hval 1 24 v1 rfl rfl) h1
  obtain ⟨a2, rfl, rfl, rfl, w2⟩ := open_int Try.underlying5 (hval 2 5 v2 rfl rfl) h2
  clear hA0 hval0
  refine (walk a0 len0 cap0 v1 a2 W w0 w1 w2).mono fun e W' ⟨he, bel⟩ => ?_
  subst he
  exact ⟨_, rfl, _, _, _, [], _, [], hW', trodAll_mk1 (shut_bool Try.underlying4 _), (trodAll_cons_mk (Below.trod laidOut (by kernel_rfl) (of_decide_eq_true (by kernel_rfl)) k0 bel lt0) (trodAll_cons_mk (Below.trod laidOut (by kernel_rfl) (of_decide_eq_true (by kernel_rfl)) k1 bel lt1) (trodAll_cons_mk (Below.trod laidOut (by kernel_rfl) (of_decide_eq_true (by kernel_rfl)) k2 bel lt2) trodAll_mk0))), rfl, bel.frame _, fun h => by cases h⟩

theorem over : Rows.planSoonRow.holds Try.pinned (OpenSpec.ofChange Rows.planSoonSpec) :=
  OpenClaim.holds_of_wide 8 Try.f8 rfl rfl rfl rfl rfl rfl rfl ⟨rfl, rfl, rfl, rfl, rfl⟩ rfl rfl rfl rfl rfl (by kernel_rfl) Try.func8 (by kernel_rfl)
    (of_decide_eq_true (by kernel_rfl)) (by unfold Func.isWrapper; first | (rw [if_pos (by decide +kernel)]; kernel_rfl) | (rw [if_neg (by decide +kernel)]; exact ⟨rfl, rfl⟩))
    (fun os started H enc _ => lifted os started H enc)

/-- THE STATEMENT -/
theorem planSoon_holds : Rows.PlanSoonSaid := over
#print axioms planSoon_holds
end Go.Proofs.Ytecojmpiaaehlaa.planSoon
