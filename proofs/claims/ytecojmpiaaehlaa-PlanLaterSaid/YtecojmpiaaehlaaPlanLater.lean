/-
  P14.1: what is reserved lets nothing start sooner.
  (The frame behind the walk is the guide's shell, at these parameters.)
-/
import Derived.Test.YtecojmpiaaehlaaRows
import Derived.WalkKit
import Derived.Test.YtecojmpiaaehlaaLwC
import Derived.Test.YtecojmpiaaehlaaPlZ
import Derived.Test.YtecojmpiaaehlaaPlH
import Derived.ProofKit
import Derived.Deep.Cut
import Derived.Deep.CutRange
import Derived.Deep.CutBlock
import Derived.Deep.Grids
import Derived.OpenShut
import Derived.ShutString
import Derived.ChangeOld
import Derived.Below
namespace Go.Proofs.Ytecojmpiaaehlaa.planLater
open Go.ChangeShapes Go.WideShapes Go.ChangeAt Go.RowKit
open Go.ChangeMaps (open_string shut_string)
set_option linter.unusedVariables false

theorem own : ownKnob Try.prog.godebug = none := by kernel_rfl
theorem laidOut : laidOutB Try.prog = true := by kernel_rfl

theorem found_len {p : List (List Nat)} {K : Int} {t r : Nat} {ns : List Nat} (h : first p K = some (t, r, ns)) : ns.length ≤ (p.getD r []).length := by
  obtain ⟨hr, k, -, hk, hT, hns⟩ := first_row h
  rw [hns]
  unfold sel selTo
  exact Nat.le_trans (List.length_filter_le _ _) (by simp)
theorem bnd_row {P : List (List Int)} (h : ∀ r ∈ P, r.length ≤ 20) (r : Nat) : ((bndP P).getD r []).length ≤ 20 := by
  rw [List.getD_eq_getElem?_getD]
  unfold bndP
  rw [List.getElem?_map]
  cases hr : P[r]? with
  | none => simp
  | some l => simpa [bndL] using h l (List.mem_of_getElem? hr)
theorem found_20 {P : List (List Int)} (h : ∀ r ∈ P, r.length ≤ 20) (K : Int) : (stN (first (bndP P) K)).length ≤ 20 := by
  cases hf : first (bndP P) K with
  | none => simp [stN]
  | some s => obtain ⟨t, r, ns⟩ := s; exact Nat.le_trans (found_len hf) (bnd_row h r)
/-- In wx lies, in a block made since x, the start s that v points to. -/
def Started (x wx : World) (v : Value) (s : Found) : Prop :=
  ∃ g ua uc, v = .pointer (some ⟨g, 0, none⟩) ∧ x.heap.size ≤ g ∧ wx.heap[g]? = some (.cells #[.int .i64 (stA s : Nat), .int .i64 (stR s : Nat), .slice ua (stN s).length uc, .bool s.isSome] 32 (0, 0)) ∧ wx.ownsRow x.heap.size 3 1 (.slice ua (stN s).length uc) (stN s).length ((stN s).map iv) ∧ Below x.heap.size x wx
theorem set4_cell (w : World) (g q o : Nat) (A B C D : Value) (h : q ≠ g) : (set4 w g A B C D).cell? ⟨q, o, none⟩ = w.cell? ⟨q, o, none⟩ := World.cell?_of_block (w := w) (set4_other w g q A B C D h)
theorem alloc_cell (w : World) (q o : Nat) (c : Obj) (h : q < w.heap.size) : (w.alloc c).cell? ⟨q, o, none⟩ = w.cell? ⟨q, o, none⟩ := ((Below.refl _ _).alloc (Nat.le_refl _) c).cell (p := ⟨q, o, none⟩) h
theorem alloc_cell_d (w : World) (q o : Nat) (c : Obj) (h : q < w.heap.size) : (w.alloc c).drew.cell? ⟨q, o, none⟩ = w.drew.cell? ⟨q, o, none⟩ := ((Below.refl _ _).alloc (Nat.le_refl _) c).cell (p := ⟨q, o, none⟩) h
theorem zlt {w : World} {g : Nat} {o : Obj} (h : w.heap[g]? = some o) : g < w.heap.size := (Array.getElem?_eq_some_iff.1 h).1
abbrev Zero4 (w : World) (g : Nat) : Prop := w.heap[g]? = some (.cells #[.int .i64 0, .int .i64 0, .slice none 0 0, .bool false] 32 (0, 0))
theorem zero4 {w : World} {g : Nat} (h : Zero4 w g) : w.cell? ⟨g, 0, none⟩ = some (.int .i64 0) ∧ w.cell? ⟨g, 1, none⟩ = some (.int .i64 0) ∧ w.cell? ⟨g, 2, none⟩ = some (.slice none 0 0) ∧ w.cell? ⟨g, 3, none⟩ = some (.bool false) ∧
    w.frozen? ⟨g, 0, none⟩ = false ∧ w.frozen? ⟨g, 1, none⟩ = false ∧ w.frozen? ⟨g, 2, none⟩ = false ∧ w.frozen? ⟨g, 3, none⟩ = false :=
  ⟨(cell_of_row w _ _ _ _ _ h).trans rfl, (cell_of_row w _ _ _ _ _ h).trans rfl, (cell_of_row w _ _ _ _ _ h).trans rfl, (cell_of_row w _ _ _ _ _ h).trans rfl, frozen_of_row _ _ _ _ _ h, frozen_of_row _ _ _ _ _ h, frozen_of_row _ _ _ _ _ h, frozen_of_row _ _ _ _ _ h⟩
theorem started_a {x q : World} {s : Found} {ua : Option Addr} {uc lo b : Nat} (hb : x.heap.size ≤ b) (hl : b < lo) (hg : Zero4 q b) (hq : Below x.heap.size x q)
    (ho : q.ownsRow lo 3 1 (.slice ua (stN s).length uc) (stN s).length ((stN s).map iv)) :
    Started x (set4 q b (.int .i64 (stA s : Nat)) (.int .i64 (stR s : Nat)) (.slice ua (stN s).length uc) (.bool s.isSome)) (.pointer (some ⟨b, 0, none⟩)) s :=
  ⟨_, _, _, rfl, hb, set4_heap _ _ _ _ hg, owns_base (owns_by ho fun c hc => set4_other _ _ _ _ _ _ _ (by have := (World.ownsRow.lt ho c hc).1; omega)) (by omega), set4_below hq _ _ _ _ _ hb⟩
theorem started_b {x q : World} {s : Found} {ua : Option Addr} {uc : Nat} {b : Nat} (hb : x.heap.size ≤ b) (hq : Below x.heap.size x q) (ho : q.ownsRow b 3 1 (.slice ua (stN s).length uc) (stN s).length ((stN s).map iv)) :
    Started x (q.alloc (.cells #[.int .i64 (stA s : Nat), .int .i64 (stR s : Nat), .slice ua (stN s).length uc, .bool s.isSome] 32)) (.pointer (some ⟨q.heap.size, 0, none⟩)) s := by
  have hs := hq.size
  refine ⟨_, _, _, rfl, hs, heap_alloc_new _ _, ?_, hq.alloc hs _⟩
  exact owns_base (owns_below ho ((Below.refl _ _).alloc (Nat.le_refl _) _)) hb
set_option maxRecDepth 100000 in
set_option maxHeartbeats 8000000 in
theorem walk (a0 : Option Addr) (len0 cap0 : Nat) (v1 : Value) (v2 : Value) (w : World) (w0 : IsMatI w a0 len0 cap0) (w1 : IsAsk w v1) (w2 : IsAsk w v2) :
    Calls Try.prog 9 #[.slice a0 len0 cap0, v1, v2] w fun e w' => e = .returned (.bool true) ∧ Below w.heap.size w w' := by
  obtain ⟨ts, hraw⟩ := w0.raw
  obtain ⟨k1, n1, rfl⟩ := w1
  obtain ⟨k2, n2, rfl⟩ := w2
  obtain ⟨ht10, ht20⟩ := raw_take hraw
  have HR := hid hraw
  have HT10 := hid ht10
  have HT20 := hid ht20
  have HPROF := hid (fun w' (h : Below w.heap.size w w') => profile_any w' a0 len0 cap0 ts (HR.out.all h))
  clear w0 hraw ht10 ht20 HR
  generalize ts.take 10 = P at *
  have HF := hid (fun (w8 : World) (v8 : Value) (k n : Int) (h : RdP w8 v8 P) => xfirst_any w8 v8 P k n h (by have := HT10.out; omega) (fun r hr => by have := HT20.out r hr; omega))
  go_enter Try.func9, Try.ntmps9
  go_wp2_with fail
  obtain ⟨x1, hx1⟩ : ∃ x1, x1 = w.alloc (.cells #[.int .i64 k1, .int .i64 n1] 24) := ⟨_, rfl⟩
  obtain ⟨x2, hx2⟩ : ∃ x2, x2 = x1.alloc (.cells #[.int .i64 k2, .int .i64 n2] 24) := ⟨_, rfl⟩
  have hs1 : x1.heap.size = w.heap.size + 1 := by rw [hx1]; simp
  have hs2 : x2.heap.size = w.heap.size + 2 := by rw [hx2]; simp [hs1]
  have hb1 : Below w.heap.size w x1 := by rw [hx1]; exact (Below.refl _ w).alloc (Nat.le_refl _) _
  have hb2 : Below x1.heap.size x1 x2 := by rw [hx2]; exact (Below.refl _ x1).alloc (Nat.le_refl _) _
  have g1 : x2.heap[w.heap.size]? = some (.cells #[.int .i64 k1, .int .i64 n1] 24 (0, 0)) := (hb2.block _ (by omega)).trans (by rw [hx1]; exact heap_alloc_new w _)
  have g2 : x2.heap[w.heap.size + 1]? = some (.cells #[.int .i64 k2, .int .i64 n2] 24 (0, 0)) := by rw [hx2, ← hs1]; exact heap_alloc_new x1 _
  have HB2 := hid (hb1.trans (hb2.mono (by omega)))
  have HG1 := hid g1
  have HG2 := hid g2
  rw [← hx1, ← hx2]
  clear hx1 hx2 hb1 hb2 g1 g2 hs1
  refine (awake14_any x2).mono ?_
  rintro e xa ⟨rfl, hba⟩
  have hsa : w.heap.size + 2 ≤ xa.heap.size := by have := hba.size; omega
  have HBa := hid (HB2.out.trans (hba.mono (by omega)))
  have HA1a := hid ((hba.block _ (by omega)).trans HG1.out)
  have HA2a := hid ((hba.block _ (by omega)).trans HG2.out)
  clear hba hs2 HB2 HG1 HG2
  go_wp2_with fail
  obtain ⟨s1, hS1⟩ : ∃ s, s = first (bndP P) k1 := ⟨_, rfl⟩
  have HS1 := hid hS1
  clear hS1
  have HF1 := hid (fun w8 v8 h => by have := HF.out w8 v8 k1 n1 h; rw [← HS1.out] at this; exact this)
  go_cut [7] from 12 to 15 (fun v wx => Started xa wx v s1)
  case first =>
    have hsx : w.heap.size + 2 ≤ xa.heap.size := hsa
    have d0 : xa.cell? ⟨w.heap.size, 0, none⟩ = some (.int .i64 k1) := (cell_of_row xa _ _ _ _ _ HA1a.out).trans rfl
    have D0 : xa.drew.cell? ⟨w.heap.size, 0, none⟩ = some (.int .i64 k1) := d0
    have d1 : xa.cell? ⟨w.heap.size, 1, none⟩ = some (.int .i64 n1) := (cell_of_row xa _ _ _ _ _ HA1a.out).trans rfl
    have D1 : xa.drew.cell? ⟨w.heap.size, 1, none⟩ = some (.int .i64 n1) := d1
    have HK1 := hid (fun w8 (hb : Below xa.heap.size xa w8) => HPROF.out w8 (HBa.out.trans (hb.mono (by omega))))
    go_region_held3 (fun w' => w'.cell? ⟨w.heap.size, 0, none⟩ = some (.int .i64 k1) ∧ w'.cell? ⟨w.heap.size, 1, none⟩ = some (.int .i64 n1))
      (first | (with_reducible refine ⟨?_, ?_⟩ <;> assumption) | (with_reducible refine ⟨(alloc_cell _ _ _ _ ?_).trans ?_, (alloc_cell _ _ _ _ ?_).trans ?_⟩ <;> first | assumption | omega) | (with_reducible refine ⟨(alloc_cell_d _ _ _ _ ?_).trans ?_, (alloc_cell_d _ _ _ _ ?_).trans ?_⟩ <;> first | assumption | omega) | (with_reducible refine ⟨(set4_cell _ _ _ _ _ _ _ _ ?_).trans ?_, (set4_cell _ _ _ _ _ _ _ _ ?_).trans ?_⟩ <;> first | assumption | omega) | fail)
      (first
        | (go_at_call 12; (with_reducible refine (HK1.out _ (Below.refl _ _).drew).mono ?_); rintro e y1 ⟨v4, rfl, hv4, hb1⟩; have hsz : xa.heap.size ≤ y1.heap.size := hb1.size; have hp1 : Below xa.heap.size xa y1 := (Below.refl _ _).drew.trans hb1; have HNA := hid (show True from trivial); have hq1 : Below xa.heap.size xa y1 := hp1; have r10 := (hp1.cell (p := ⟨w.heap.size, 0, none⟩) (by show w.heap.size < _; omega)).trans d0; have r11 := (hp1.cell (p := ⟨w.heap.size, 1, none⟩) (by show w.heap.size < _; omega)).trans d1; obtain ⟨va4, vc4, rfl, hv41, hv42⟩ := hv4.len; have HK2 := hid (fun w8 (hb : Below y1.heap.size y1 w8) => HF1.out w8 _ (hv4.all hb)); clear hb1 hp1)
        | (go_at_call 12; (with_reducible refine (HK1.out _ ((Below.refl _ _).alloc (Nat.le_refl _) _).drew).mono ?_); rintro e y1 ⟨v4, rfl, hv4, hb1⟩; have hsz : xa.heap.size + 1 ≤ y1.heap.size := (by have := hb1.size; first | (rw [World.size_alloc] at this; exact this) | (rw [show ∀ c, (xa.alloc c).drew.heap.size = xa.heap.size + 1 from fun c => World.size_alloc _ _] at this; exact this)); have hp1 : Below xa.heap.size xa y1 := ((Below.refl _ _).alloc (Nat.le_refl _) _).drew.trans (hb1.mono (by first | (rw [World.size_alloc]; omega) | (show _ ≤ (xa.alloc _).heap.size; rw [World.size_alloc]; omega))); have hz : Zero4 y1 xa.heap.size := (hb1.block _ (by show _ < (xa.alloc _).heap.size; rw [World.size_alloc]; omega)).trans (heap_alloc_new _ _); have HZ := hid hz; have HZX := hid (show xa.heap.size ≤ xa.heap.size by omega); have HZL := hid (show xa.heap.size < y1.heap.size by omega); have hq1 : Below xa.heap.size xa y1 := hp1; have r10 := (hp1.cell (p := ⟨w.heap.size, 0, none⟩) (by show w.heap.size < _; omega)).trans d0; have r11 := (hp1.cell (p := ⟨w.heap.size, 1, none⟩) (by show w.heap.size < _; omega)).trans d1; obtain ⟨va4, vc4, rfl, hv41, hv42⟩ := hv4.len; have HK2 := hid (fun w8 (hb : Below y1.heap.size y1 w8) => HF1.out w8 _ (hv4.all hb)); clear hb1 hp1)
        | (go_at_call 14; have HZO := HZ; (with_reducible refine (HK2.out _ (Below.refl _ _)).mono ?_); rintro e y2 ⟨u5, rfl, ho5, hb2⟩; have hsz : y1.heap.size ≤ y2.heap.size := hb2.size; have hp2 : Below y1.heap.size y1 y2 := hb2; have HZ := hid (show Zero4 y2 _ from (hb2.block _ (zlt HZO.out)).trans HZO.out); clear HZO; have hq2 : Below xa.heap.size xa y2 := hq1.trans (hp2.mono (by omega)); have r20 := (hp2.cell (p := ⟨w.heap.size, 0, none⟩) (by show w.heap.size < _; omega)).trans r10; have r21 := (hp2.cell (p := ⟨w.heap.size, 1, none⟩) (by show w.heap.size < _; omega)).trans r11; obtain ⟨ua, uc, ex, hu51, hu52⟩ := owns_slice ho5; subst ex; obtain ⟨m0, m1, m2, m3, f0, f1, f2, f3⟩ := zero4 HZ.out; have HST := hid (started_a (x := xa) (s := s1) HZX.out (by have := HZL.out; omega) HZ.out hq2 ho5); clear ho5; clear hb2 hp2)
        | (go_at_call 14; have HNO := HNA; (with_reducible refine (HK2.out _ (Below.refl _ _)).mono ?_); rintro e y2 ⟨u5, rfl, ho5, hb2⟩; have hsz : y1.heap.size ≤ y2.heap.size := hb2.size; have hp2 : Below y1.heap.size y1 y2 := hb2; have HNA := hid (show True from trivial); have hq2 : Below xa.heap.size xa y2 := hq1.trans (hp2.mono (by omega)); have r20 := (hp2.cell (p := ⟨w.heap.size, 0, none⟩) (by show w.heap.size < _; omega)).trans r10; have r21 := (hp2.cell (p := ⟨w.heap.size, 1, none⟩) (by show w.heap.size < _; omega)).trans r11; obtain ⟨ua, uc, ex, hu51, hu52⟩ := owns_slice ho5; subst ex; have HST := hid (started_b (x := xa) (s := s1) (by omega) hq2 ho5); clear ho5; clear hb2 hp2)
        | (go_at_call 14; (with_reducible refine (HK2.out _ ((Below.refl _ _).alloc (Nat.le_refl _) _)).mono ?_); rintro e y2 ⟨u5, rfl, ho5, hb2⟩; have hsz : y1.heap.size + 1 ≤ y2.heap.size := (by have := hb2.size; first | (rw [World.size_alloc] at this; exact this) | (rw [show ∀ c, (y1.alloc c).drew.heap.size = y1.heap.size + 1 from fun c => World.size_alloc _ _] at this; exact this)); have hp2 : Below y1.heap.size y1 y2 := ((Below.refl _ _).alloc (Nat.le_refl _) _).trans (hb2.mono (by first | (rw [World.size_alloc]; omega) | (show _ ≤ (y1.alloc _).heap.size; rw [World.size_alloc]; omega))); have hz : Zero4 y2 y1.heap.size := (hb2.block _ (by show _ < (y1.alloc _).heap.size; rw [World.size_alloc]; omega)).trans (heap_alloc_new _ _); have HZ := hid hz; have HZX := hid (show xa.heap.size ≤ y1.heap.size by omega); have HZL := hid (show y1.heap.size < y2.heap.size by omega); have hq2 : Below xa.heap.size xa y2 := hq1.trans (hp2.mono (by omega)); have r20 := (hp2.cell (p := ⟨w.heap.size, 0, none⟩) (by show w.heap.size < _; omega)).trans r10; have r21 := (hp2.cell (p := ⟨w.heap.size, 1, none⟩) (by show w.heap.size < _; omega)).trans r11; obtain ⟨ua, uc, ex, hu51, hu52⟩ := owns_slice ho5; subst ex; have ho6 := owns_base ho5 (show y1.heap.size + 1 ≤ _ by first | (rw [World.size_alloc]; exact Nat.le_refl _) | (show _ ≤ (y1.alloc _).heap.size; rw [World.size_alloc]; exact Nat.le_refl _)); obtain ⟨m0, m1, m2, m3, f0, f1, f2, f3⟩ := zero4 HZ.out; have HST := hid (started_a (x := xa) (s := s1) HZX.out (Nat.lt_succ_self _) HZ.out hq2 ho6); clear ho6; clear ho5; clear hb2 hp2)
        | fail)
    all_goals (go_wp2_with fail; go_meet; case rel => exact HST.out)
  case rest =>
    obtain ⟨xb, hxb⟩ : ∃ x, x = wc := ⟨_, rfl⟩
    subst hxb
    obtain ⟨g1, ua1, uc1, rfl, hg1, hG1, hO1, hbb⟩ := hcut
    have HG1b := hid hG1
    have HO1b := hid hO1
    have HBb := hid (HBa.out.trans (hbb.mono (by omega)))
    have hgl1 : g1 < xb.heap.size := zlt hG1
    have hsb : w.heap.size + 2 ≤ xb.heap.size := by have := hbb.size; omega
    have hg1w : w.heap.size + 2 ≤ g1 := by omega
    have hn1 : (stN s1).length ≤ 20 := by rw [HS1.out]; exact found_20 HT20.out _
    have HA1b := hid ((hbb.block _ (by omega)).trans HA1a.out)
    have HA2b := hid ((hbb.block _ (by omega)).trans HA2a.out)
    clear hG1 hO1 hbb
    go_wp2_with fail
    obtain ⟨s2, hS2⟩ : ∃ s, s = first (bndP P) k2 := ⟨_, rfl⟩
    have HS2 := hid hS2
    clear hS2
    have HF2 := hid (fun w8 v8 h => by have := HF.out w8 v8 k2 n2 h; rw [← HS2.out] at this; exact this)
    go_cut [8] from 16 to 19 (fun v wx => Started xb wx v s2)
    case first =>
      have hsx : w.heap.size + 2 ≤ xb.heap.size := hsb
      have d0 : xb.cell? ⟨w.heap.size + 1, 0, none⟩ = some (.int .i64 k2) := (cell_of_row xb _ _ _ _ _ HA2b.out).trans rfl
      have D0 : xb.drew.cell? ⟨w.heap.size + 1, 0, none⟩ = some (.int .i64 k2) := d0
      have d1 : xb.cell? ⟨w.heap.size + 1, 1, none⟩ = some (.int .i64 n2) := (cell_of_row xb _ _ _ _ _ HA2b.out).trans rfl
      have D1 : xb.drew.cell? ⟨w.heap.size + 1, 1, none⟩ = some (.int .i64 n2) := d1
      have HK1 := hid (fun w8 (hb : Below xb.heap.size xb w8) => HPROF.out w8 (HBb.out.trans (hb.mono (by omega))))
      go_region_held3 (fun w' => w'.cell? ⟨w.heap.size + 1, 0, none⟩ = some (.int .i64 k2) ∧ w'.cell? ⟨w.heap.size + 1, 1, none⟩ = some (.int .i64 n2))
        (first | (with_reducible refine ⟨?_, ?_⟩ <;> assumption) | (with_reducible refine ⟨(alloc_cell _ _ _ _ ?_).trans ?_, (alloc_cell _ _ _ _ ?_).trans ?_⟩ <;> first | assumption | omega) | (with_reducible refine ⟨(alloc_cell_d _ _ _ _ ?_).trans ?_, (alloc_cell_d _ _ _ _ ?_).trans ?_⟩ <;> first | assumption | omega) | (with_reducible refine ⟨(set4_cell _ _ _ _ _ _ _ _ ?_).trans ?_, (set4_cell _ _ _ _ _ _ _ _ ?_).trans ?_⟩ <;> first | assumption | omega) | fail)
        (first
          | (go_at_call 12; (with_reducible refine (HK1.out _ (Below.refl _ _).drew).mono ?_); rintro e y1 ⟨v4, rfl, hv4, hb1⟩; have hsz : xb.heap.size ≤ y1.heap.size := hb1.size; have hp1 : Below xb.heap.size xb y1 := (Below.refl _ _).drew.trans hb1; have HNA := hid (show True from trivial); have hq1 : Below xb.heap.size xb y1 := hp1; have r10 := (hp1.cell (p := ⟨w.heap.size + 1, 0, none⟩) (by show w.heap.size + 1 < _; omega)).trans d0; have r11 := (hp1.cell (p := ⟨w.heap.size + 1, 1, none⟩) (by show w.heap.size + 1 < _; omega)).trans d1; obtain ⟨va4, vc4, rfl, hv41, hv42⟩ := hv4.len; have HK2 := hid (fun w8 (hb : Below y1.heap.size y1 w8) => HF2.out w8 _ (hv4.all hb)); clear hb1 hp1)
          | (go_at_call 12; (with_reducible refine (HK1.out _ ((Below.refl _ _).alloc (Nat.le_refl _) _).drew).mono ?_); rintro e y1 ⟨v4, rfl, hv4, hb1⟩; have hsz : xb.heap.size + 1 ≤ y1.heap.size := (by have := hb1.size; first | (rw [World.size_alloc] at this; exact this) | (rw [show ∀ c, (xb.alloc c).drew.heap.size = xb.heap.size + 1 from fun c => World.size_alloc _ _] at this; exact this)); have hp1 : Below xb.heap.size xb y1 := ((Below.refl _ _).alloc (Nat.le_refl _) _).drew.trans (hb1.mono (by first | (rw [World.size_alloc]; omega) | (show _ ≤ (xb.alloc _).heap.size; rw [World.size_alloc]; omega))); have hz : Zero4 y1 xb.heap.size := (hb1.block _ (by show _ < (xb.alloc _).heap.size; rw [World.size_alloc]; omega)).trans (heap_alloc_new _ _); have HZ := hid hz; have HZX := hid (show xb.heap.size ≤ xb.heap.size by omega); have HZL := hid (show xb.heap.size < y1.heap.size by omega); have hq1 : Below xb.heap.size xb y1 := hp1; have r10 := (hp1.cell (p := ⟨w.heap.size + 1, 0, none⟩) (by show w.heap.size + 1 < _; omega)).trans d0; have r11 := (hp1.cell (p := ⟨w.heap.size + 1, 1, none⟩) (by show w.heap.size + 1 < _; omega)).trans d1; obtain ⟨va4, vc4, rfl, hv41, hv42⟩ := hv4.len; have HK2 := hid (fun w8 (hb : Below y1.heap.size y1 w8) => HF2.out w8 _ (hv4.all hb)); clear hb1 hp1)
          | (go_at_call 14; have HZO := HZ; (with_reducible refine (HK2.out _ (Below.refl _ _)).mono ?_); rintro e y2 ⟨u5, rfl, ho5, hb2⟩; have hsz : y1.heap.size ≤ y2.heap.size := hb2.size; have hp2 : Below y1.heap.size y1 y2 := hb2; have HZ := hid (show Zero4 y2 _ from (hb2.block _ (zlt HZO.out)).trans HZO.out); clear HZO; have hq2 : Below xb.heap.size xb y2 := hq1.trans (hp2.mono (by omega)); have r20 := (hp2.cell (p := ⟨w.heap.size + 1, 0, none⟩) (by show w.heap.size + 1 < _; omega)).trans r10; have r21 := (hp2.cell (p := ⟨w.heap.size + 1, 1, none⟩) (by show w.heap.size + 1 < _; omega)).trans r11; obtain ⟨ua, uc, ex, hu51, hu52⟩ := owns_slice ho5; subst ex; obtain ⟨m0, m1, m2, m3, f0, f1, f2, f3⟩ := zero4 HZ.out; have HST := hid (started_a (x := xb) (s := s2) HZX.out (by have := HZL.out; omega) HZ.out hq2 ho5); clear ho5; clear hb2 hp2)
          | (go_at_call 14; have HNO := HNA; (with_reducible refine (HK2.out _ (Below.refl _ _)).mono ?_); rintro e y2 ⟨u5, rfl, ho5, hb2⟩; have hsz : y1.heap.size ≤ y2.heap.size := hb2.size; have hp2 : Below y1.heap.size y1 y2 := hb2; have HNA := hid (show True from trivial); have hq2 : Below xb.heap.size xb y2 := hq1.trans (hp2.mono (by omega)); have r20 := (hp2.cell (p := ⟨w.heap.size + 1, 0, none⟩) (by show w.heap.size + 1 < _; omega)).trans r10; have r21 := (hp2.cell (p := ⟨w.heap.size + 1, 1, none⟩) (by show w.heap.size + 1 < _; omega)).trans r11; obtain ⟨ua, uc, ex, hu51, hu52⟩ := owns_slice ho5; subst ex; have HST := hid (started_b (x := xb) (s := s2) (by omega) hq2 ho5); clear ho5; clear hb2 hp2)
          | (go_at_call 14; (with_reducible refine (HK2.out _ ((Below.refl _ _).alloc (Nat.le_refl _) _)).mono ?_); rintro e y2 ⟨u5, rfl, ho5, hb2⟩; have hsz : y1.heap.size + 1 ≤ y2.heap.size := (by have := hb2.size; first | (rw [World.size_alloc] at this; exact this) | (rw [show ∀ c, (y1.alloc c).drew.heap.size = y1.heap.size + 1 from fun c => World.size_alloc _ _] at this; exact this)); have hp2 : Below y1.heap.size y1 y2 := ((Below.refl _ _).alloc (Nat.le_refl _) _).trans (hb2.mono (by first | (rw [World.size_alloc]; omega) | (show _ ≤ (y1.alloc _).heap.size; rw [World.size_alloc]; omega))); have hz : Zero4 y2 y1.heap.size := (hb2.block _ (by show _ < (y1.alloc _).heap.size; rw [World.size_alloc]; omega)).trans (heap_alloc_new _ _); have HZ := hid hz; have HZX := hid (show xb.heap.size ≤ y1.heap.size by omega); have HZL := hid (show y1.heap.size < y2.heap.size by omega); have hq2 : Below xb.heap.size xb y2 := hq1.trans (hp2.mono (by omega)); have r20 := (hp2.cell (p := ⟨w.heap.size + 1, 0, none⟩) (by show w.heap.size + 1 < _; omega)).trans r10; have r21 := (hp2.cell (p := ⟨w.heap.size + 1, 1, none⟩) (by show w.heap.size + 1 < _; omega)).trans r11; obtain ⟨ua, uc, ex, hu51, hu52⟩ := owns_slice ho5; subst ex; have ho6 := owns_base ho5 (show y1.heap.size + 1 ≤ _ by first | (rw [World.size_alloc]; exact Nat.le_refl _) | (show _ ≤ (y1.alloc _).heap.size; rw [World.size_alloc]; exact Nat.le_refl _)); obtain ⟨m0, m1, m2, m3, f0, f1, f2, f3⟩ := zero4 HZ.out; have HST := hid (started_a (x := xb) (s := s2) HZX.out (Nat.lt_succ_self _) HZ.out hq2 ho6); clear ho6; clear ho5; clear hb2 hp2)
          | fail)
      all_goals (go_wp2_with fail; go_meet; case rel => exact HST.out)
    case rest =>
      obtain ⟨xc, hxc⟩ : ∃ x, x = wc := ⟨_, rfl⟩
      subst hxc
      obtain ⟨g2, ua2, uc2, rfl, hg2, hG2, hO2, hbc⟩ := hcut
      have HG2c := hid hG2
      have HO2c := hid hO2
      have HBc := hid (HBb.out.trans (hbc.mono (by omega)))
      have hgl2 : g2 < xc.heap.size := zlt hG2
      have hsc : w.heap.size + 2 ≤ xc.heap.size := by have := hbc.size; omega
      have hg2w : w.heap.size + 2 ≤ g2 := by omega
      have hn2 : (stN s2).length ≤ 20 := by rw [HS2.out]; exact found_20 HT20.out _
      have HA1c := hid ((hbc.block _ (by omega)).trans HA1b.out)
      have HA2c := hid ((hbc.block _ (by omega)).trans HA2b.out)
      have HG1c := hid ((hbc.block _ (by omega)).trans HG1b.out)
      have HO1c := hid (owns_below HO1b.out hbc)
      clear hG2 hO2 hbc
      go_wp2_with fail
      obtain ⟨p3, hp3⟩ : ∃ p, p = resI (bndP P) s1.isSome (stA s1 : Nat) (stR s1 : Nat) ((stN s1).map Int.ofNat) n1 := ⟨_, rfl⟩
      obtain ⟨s3, hS3⟩ : ∃ s, s = first p3 k2 := ⟨_, rfl⟩
      have HP3 := hid hp3
      have HS3 := hid hS3
      obtain ⟨Q3, hQ3⟩ : ∃ p, p = resR P s1.isSome (stR s1 : Nat) ((stN s1).map Int.ofNat) (addT (stA s1 : Nat) (max n1 1)) := ⟨_, rfl⟩
      have HQ3 := hid hQ3
      have HBQ := hid (show bndP Q3 = p3 by rw [hQ3, hp3]; exact bnd_resR _ _ _ _ _ _)
      have hl3 : Q3.length = P.length := by rw [hQ3, resR_len]
      clear hS3 hp3 hQ3
      go_cut [9] from 20 to 27 (fun v wx => Started xc wx v s3)
      case first =>
        have hsx : w.heap.size + 2 ≤ xc.heap.size := hsc
        have d0 : xc.cell? ⟨g1, 0, none⟩ = some (.int .i64 (stA s1 : Nat)) := (cell_of_row xc _ _ _ _ _ HG1c.out).trans rfl
        have D0 : xc.drew.cell? ⟨g1, 0, none⟩ = some (.int .i64 (stA s1 : Nat)) := d0
        have d1 : xc.cell? ⟨g1, 1, none⟩ = some (.int .i64 (stR s1 : Nat)) := (cell_of_row xc _ _ _ _ _ HG1c.out).trans rfl
        have D1 : xc.drew.cell? ⟨g1, 1, none⟩ = some (.int .i64 (stR s1 : Nat)) := d1
        have d2 : xc.cell? ⟨g1, 2, none⟩ = some (.slice ua1 (stN s1).length uc1) := (cell_of_row xc _ _ _ _ _ HG1c.out).trans rfl
        have D2 : xc.drew.cell? ⟨g1, 2, none⟩ = some (.slice ua1 (stN s1).length uc1) := d2
        have d3 : xc.cell? ⟨g1, 3, none⟩ = some (.bool s1.isSome) := (cell_of_row xc _ _ _ _ _ HG1c.out).trans rfl
        have D3 : xc.drew.cell? ⟨g1, 3, none⟩ = some (.bool s1.isSome) := d3
        have d4 : xc.cell? ⟨w.heap.size, 1, none⟩ = some (.int .i64 n1) := (cell_of_row xc _ _ _ _ _ HA1c.out).trans rfl
        have D4 : xc.drew.cell? ⟨w.heap.size, 1, none⟩ = some (.int .i64 n1) := d4
        have d5 : xc.cell? ⟨w.heap.size + 1, 0, none⟩ = some (.int .i64 k2) := (cell_of_row xc _ _ _ _ _ HA2c.out).trans rfl
        have D5 : xc.drew.cell? ⟨w.heap.size + 1, 0, none⟩ = some (.int .i64 k2) := d5
        have d6 : xc.cell? ⟨w.heap.size + 1, 1, none⟩ = some (.int .i64 n2) := (cell_of_row xc _ _ _ _ _ HA2c.out).trans rfl
        have D6 : xc.drew.cell? ⟨w.heap.size + 1, 1, none⟩ = some (.int .i64 n2) := d6
        have HK1 := hid (fun w8 (hb : Below xc.heap.size xc w8) => HPROF.out w8 (HBc.out.trans (hb.mono (by omega))))
        go_region_held3 (fun w' => w'.cell? ⟨g1, 0, none⟩ = some (.int .i64 (stA s1 : Nat)) ∧ w'.cell? ⟨g1, 1, none⟩ = some (.int .i64 (stR s1 : Nat)) ∧ w'.cell? ⟨g1, 2, none⟩ = some (.slice ua1 (stN s1).length uc1) ∧ w'.cell? ⟨g1, 3, none⟩ = some (.bool s1.isSome) ∧ w'.cell? ⟨w.heap.size, 1, none⟩ = some (.int .i64 n1) ∧ w'.cell? ⟨w.heap.size + 1, 0, none⟩ = some (.int .i64 k2) ∧ w'.cell? ⟨w.heap.size + 1, 1, none⟩ = some (.int .i64 n2))
          (first | (with_reducible refine ⟨?_, ?_, ?_, ?_, ?_, ?_, ?_⟩ <;> assumption) | (with_reducible refine ⟨(alloc_cell _ _ _ _ ?_).trans ?_, (alloc_cell _ _ _ _ ?_).trans ?_, (alloc_cell _ _ _ _ ?_).trans ?_, (alloc_cell _ _ _ _ ?_).trans ?_, (alloc_cell _ _ _ _ ?_).trans ?_, (alloc_cell _ _ _ _ ?_).trans ?_, (alloc_cell _ _ _ _ ?_).trans ?_⟩ <;> first | assumption | omega) | (with_reducible refine ⟨(alloc_cell_d _ _ _ _ ?_).trans ?_, (alloc_cell_d _ _ _ _ ?_).trans ?_, (alloc_cell_d _ _ _ _ ?_).trans ?_, (alloc_cell_d _ _ _ _ ?_).trans ?_, (alloc_cell_d _ _ _ _ ?_).trans ?_, (alloc_cell_d _ _ _ _ ?_).trans ?_, (alloc_cell_d _ _ _ _ ?_).trans ?_⟩ <;> first | assumption | omega) | (with_reducible refine ⟨(set4_cell _ _ _ _ _ _ _ _ ?_).trans ?_, (set4_cell _ _ _ _ _ _ _ _ ?_).trans ?_, (set4_cell _ _ _ _ _ _ _ _ ?_).trans ?_, (set4_cell _ _ _ _ _ _ _ _ ?_).trans ?_, (set4_cell _ _ _ _ _ _ _ _ ?_).trans ?_, (set4_cell _ _ _ _ _ _ _ _ ?_).trans ?_, (set4_cell _ _ _ _ _ _ _ _ ?_).trans ?_⟩ <;> first | assumption | omega) | fail)
          (first
            | (go_at_call 12; (with_reducible refine (HK1.out _ (Below.refl _ _).drew).mono ?_); rintro e y1 ⟨v4, rfl, hv4, hb1⟩; have hsz : xc.heap.size ≤ y1.heap.size := hb1.size; have hp1 : Below xc.heap.size xc y1 := (Below.refl _ _).drew.trans hb1; have HNA := hid (show True from trivial); have hq1 : Below xc.heap.size xc y1 := hp1; have r10 := (hp1.cell (p := ⟨g1, 0, none⟩) (by show g1 < _; omega)).trans d0; have r11 := (hp1.cell (p := ⟨g1, 1, none⟩) (by show g1 < _; omega)).trans d1; have r12 := (hp1.cell (p := ⟨g1, 2, none⟩) (by show g1 < _; omega)).trans d2; have r13 := (hp1.cell (p := ⟨g1, 3, none⟩) (by show g1 < _; omega)).trans d3; have r14 := (hp1.cell (p := ⟨w.heap.size, 1, none⟩) (by show w.heap.size < _; omega)).trans d4; have r15 := (hp1.cell (p := ⟨w.heap.size + 1, 0, none⟩) (by show w.heap.size + 1 < _; omega)).trans d5; have r16 := (hp1.cell (p := ⟨w.heap.size + 1, 1, none⟩) (by show w.heap.size + 1 < _; omega)).trans d6; obtain ⟨va4, vc4, rfl, hv41, hv42⟩ := hv4.len; have HK2 := hid (fun w8 (hb : Below y1.heap.size y1 w8) => (by have h1 := xreserve_any w8 _ P (stA s1 : Nat) (stR s1 : Nat) n1 ((stN s1).map Int.ofNat) s1.isSome (.slice ua1 (stN s1).length uc1) (hv4.all hb) (by have := HT10.out; omega) (fun r hr => by have := HT20.out r hr; omega) (by rw [iw_iv]; exact (RdV.of_own (owns_below HO1c.out (hq1.trans (hb.mono (by omega))))).weak) (by rw [List.length_map]; omega); rw [← HQ3.out] at h1; exact h1)); clear hb1 hp1)
            | (go_at_call 12; (with_reducible refine (HK1.out _ ((Below.refl _ _).alloc (Nat.le_refl _) _).drew).mono ?_); rintro e y1 ⟨v4, rfl, hv4, hb1⟩; have hsz : xc.heap.size + 1 ≤ y1.heap.size := (by have := hb1.size; first | (rw [World.size_alloc] at this; exact this) | (rw [show ∀ c, (xc.alloc c).drew.heap.size = xc.heap.size + 1 from fun c => World.size_alloc _ _] at this; exact this)); have hp1 : Below xc.heap.size xc y1 := ((Below.refl _ _).alloc (Nat.le_refl _) _).drew.trans (hb1.mono (by first | (rw [World.size_alloc]; omega) | (show _ ≤ (xc.alloc _).heap.size; rw [World.size_alloc]; omega))); have hz : Zero4 y1 xc.heap.size := (hb1.block _ (by show _ < (xc.alloc _).heap.size; rw [World.size_alloc]; omega)).trans (heap_alloc_new _ _); have HZ := hid hz; have HZX := hid (show xc.heap.size ≤ xc.heap.size by omega); have HZL := hid (show xc.heap.size < y1.heap.size by omega); have hq1 : Below xc.heap.size xc y1 := hp1; have r10 := (hp1.cell (p := ⟨g1, 0, none⟩) (by show g1 < _; omega)).trans d0; have r11 := (hp1.cell (p := ⟨g1, 1, none⟩) (by show g1 < _; omega)).trans d1; have r12 := (hp1.cell (p := ⟨g1, 2, none⟩) (by show g1 < _; omega)).trans d2; have r13 := (hp1.cell (p := ⟨g1, 3, none⟩) (by show g1 < _; omega)).trans d3; have r14 := (hp1.cell (p := ⟨w.heap.size, 1, none⟩) (by show w.heap.size < _; omega)).trans d4; have r15 := (hp1.cell (p := ⟨w.heap.size + 1, 0, none⟩) (by show w.heap.size + 1 < _; omega)).trans d5; have r16 := (hp1.cell (p := ⟨w.heap.size + 1, 1, none⟩) (by show w.heap.size + 1 < _; omega)).trans d6; obtain ⟨va4, vc4, rfl, hv41, hv42⟩ := hv4.len; have HK2 := hid (fun w8 (hb : Below y1.heap.size y1 w8) => (by have h1 := xreserve_any w8 _ P (stA s1 : Nat) (stR s1 : Nat) n1 ((stN s1).map Int.ofNat) s1.isSome (.slice ua1 (stN s1).length uc1) (hv4.all hb) (by have := HT10.out; omega) (fun r hr => by have := HT20.out r hr; omega) (by rw [iw_iv]; exact (RdV.of_own (owns_below HO1c.out (hq1.trans (hb.mono (by omega))))).weak) (by rw [List.length_map]; omega); rw [← HQ3.out] at h1; exact h1)); clear hb1 hp1)
            | (go_at_call 18; have HZO := HZ; (with_reducible refine (HK2.out _ (Below.refl _ _)).mono ?_); rintro e y2 ⟨bc3, gg3, rfl, hpf3, hb2⟩; have hsz : y1.heap.size ≤ y2.heap.size := hb2.size; have hp2 : Below y1.heap.size y1 y2 := hb2; have HZ := hid (show Zero4 y2 _ from (hb2.block _ (zlt HZO.out)).trans HZO.out); clear HZO; have hq2 : Below xc.heap.size xc y2 := hq1.trans (hp2.mono (by omega)); have r20 := (hp2.cell (p := ⟨g1, 0, none⟩) (by show g1 < _; omega)).trans r10; have r21 := (hp2.cell (p := ⟨g1, 1, none⟩) (by show g1 < _; omega)).trans r11; have r22 := (hp2.cell (p := ⟨g1, 2, none⟩) (by show g1 < _; omega)).trans r12; have r23 := (hp2.cell (p := ⟨g1, 3, none⟩) (by show g1 < _; omega)).trans r13; have r24 := (hp2.cell (p := ⟨w.heap.size, 1, none⟩) (by show w.heap.size < _; omega)).trans r14; have r25 := (hp2.cell (p := ⟨w.heap.size + 1, 0, none⟩) (by show w.heap.size + 1 < _; omega)).trans r15; have r26 := (hp2.cell (p := ⟨w.heap.size + 1, 1, none⟩) (by show w.heap.size + 1 < _; omega)).trans r16; have HK3 := hid (fun w8 (hb : Below y2.heap.size y2 w8) => (by have h1 := xfirst_any w8 _ Q3 k2 n2 ((RpAt.rdp hpf3).all hb) (by have := HT10.out; omega) hpf3.rlen; rw [HBQ.out, ← HS3.out] at h1; rw [hl3] at h1; exact h1)); clear hb2 hp2)
            | (go_at_call 18; have HNO := HNA; (with_reducible refine (HK2.out _ (Below.refl _ _)).mono ?_); rintro e y2 ⟨bc3, gg3, rfl, hpf3, hb2⟩; have hsz : y1.heap.size ≤ y2.heap.size := hb2.size; have hp2 : Below y1.heap.size y1 y2 := hb2; have HNA := hid (show True from trivial); have hq2 : Below xc.heap.size xc y2 := hq1.trans (hp2.mono (by omega)); have r20 := (hp2.cell (p := ⟨g1, 0, none⟩) (by show g1 < _; omega)).trans r10; have r21 := (hp2.cell (p := ⟨g1, 1, none⟩) (by show g1 < _; omega)).trans r11; have r22 := (hp2.cell (p := ⟨g1, 2, none⟩) (by show g1 < _; omega)).trans r12; have r23 := (hp2.cell (p := ⟨g1, 3, none⟩) (by show g1 < _; omega)).trans r13; have r24 := (hp2.cell (p := ⟨w.heap.size, 1, none⟩) (by show w.heap.size < _; omega)).trans r14; have r25 := (hp2.cell (p := ⟨w.heap.size + 1, 0, none⟩) (by show w.heap.size + 1 < _; omega)).trans r15; have r26 := (hp2.cell (p := ⟨w.heap.size + 1, 1, none⟩) (by show w.heap.size + 1 < _; omega)).trans r16; have HK3 := hid (fun w8 (hb : Below y2.heap.size y2 w8) => (by have h1 := xfirst_any w8 _ Q3 k2 n2 ((RpAt.rdp hpf3).all hb) (by have := HT10.out; omega) hpf3.rlen; rw [HBQ.out, ← HS3.out] at h1; rw [hl3] at h1; exact h1)); clear hb2 hp2)
            | (go_at_call 18; (with_reducible refine (HK2.out _ ((Below.refl _ _).alloc (Nat.le_refl _) _)).mono ?_); rintro e y2 ⟨bc3, gg3, rfl, hpf3, hb2⟩; have hsz : y1.heap.size + 1 ≤ y2.heap.size := (by have := hb2.size; first | (rw [World.size_alloc] at this; exact this) | (rw [show ∀ c, (y1.alloc c).drew.heap.size = y1.heap.size + 1 from fun c => World.size_alloc _ _] at this; exact this)); have hp2 : Below y1.heap.size y1 y2 := ((Below.refl _ _).alloc (Nat.le_refl _) _).trans (hb2.mono (by first | (rw [World.size_alloc]; omega) | (show _ ≤ (y1.alloc _).heap.size; rw [World.size_alloc]; omega))); have hz : Zero4 y2 y1.heap.size := (hb2.block _ (by show _ < (y1.alloc _).heap.size; rw [World.size_alloc]; omega)).trans (heap_alloc_new _ _); have HZ := hid hz; have HZX := hid (show xc.heap.size ≤ y1.heap.size by omega); have HZL := hid (show y1.heap.size < y2.heap.size by omega); have hq2 : Below xc.heap.size xc y2 := hq1.trans (hp2.mono (by omega)); have r20 := (hp2.cell (p := ⟨g1, 0, none⟩) (by show g1 < _; omega)).trans r10; have r21 := (hp2.cell (p := ⟨g1, 1, none⟩) (by show g1 < _; omega)).trans r11; have r22 := (hp2.cell (p := ⟨g1, 2, none⟩) (by show g1 < _; omega)).trans r12; have r23 := (hp2.cell (p := ⟨g1, 3, none⟩) (by show g1 < _; omega)).trans r13; have r24 := (hp2.cell (p := ⟨w.heap.size, 1, none⟩) (by show w.heap.size < _; omega)).trans r14; have r25 := (hp2.cell (p := ⟨w.heap.size + 1, 0, none⟩) (by show w.heap.size + 1 < _; omega)).trans r15; have r26 := (hp2.cell (p := ⟨w.heap.size + 1, 1, none⟩) (by show w.heap.size + 1 < _; omega)).trans r16; have HK3 := hid (fun w8 (hb : Below y2.heap.size y2 w8) => (by have h1 := xfirst_any w8 _ Q3 k2 n2 ((RpAt.rdp hpf3).all hb) (by have := HT10.out; omega) hpf3.rlen; rw [HBQ.out, ← HS3.out] at h1; rw [hl3] at h1; exact h1)); clear hb2 hp2)
            | (go_at_call 14; have HZO := HZ; (with_reducible refine (HK3.out _ (Below.refl _ _)).mono ?_); rintro e y3 ⟨u5, rfl, ho5, hb3⟩; have hsz : y2.heap.size ≤ y3.heap.size := hb3.size; have hp3 : Below y2.heap.size y2 y3 := hb3; have HZ := hid (show Zero4 y3 _ from (hb3.block _ (zlt HZO.out)).trans HZO.out); clear HZO; have hq3 : Below xc.heap.size xc y3 := hq2.trans (hp3.mono (by omega)); have r30 := (hp3.cell (p := ⟨g1, 0, none⟩) (by show g1 < _; omega)).trans r20; have r31 := (hp3.cell (p := ⟨g1, 1, none⟩) (by show g1 < _; omega)).trans r21; have r32 := (hp3.cell (p := ⟨g1, 2, none⟩) (by show g1 < _; omega)).trans r22; have r33 := (hp3.cell (p := ⟨g1, 3, none⟩) (by show g1 < _; omega)).trans r23; have r34 := (hp3.cell (p := ⟨w.heap.size, 1, none⟩) (by show w.heap.size < _; omega)).trans r24; have r35 := (hp3.cell (p := ⟨w.heap.size + 1, 0, none⟩) (by show w.heap.size + 1 < _; omega)).trans r25; have r36 := (hp3.cell (p := ⟨w.heap.size + 1, 1, none⟩) (by show w.heap.size + 1 < _; omega)).trans r26; obtain ⟨ua, uc, ex, hu51, hu52⟩ := owns_slice ho5; subst ex; obtain ⟨m0, m1, m2, m3, f0, f1, f2, f3⟩ := zero4 HZ.out; have HST := hid (started_a (x := xc) (s := s3) HZX.out (by have := HZL.out; omega) HZ.out hq3 ho5); clear ho5; clear hb3 hp3)
            | (go_at_call 14; have HNO := HNA; (with_reducible refine (HK3.out _ (Below.refl _ _)).mono ?_); rintro e y3 ⟨u5, rfl, ho5, hb3⟩; have hsz : y2.heap.size ≤ y3.heap.size := hb3.size; have hp3 : Below y2.heap.size y2 y3 := hb3; have HNA := hid (show True from trivial); have hq3 : Below xc.heap.size xc y3 := hq2.trans (hp3.mono (by omega)); have r30 := (hp3.cell (p := ⟨g1, 0, none⟩) (by show g1 < _; omega)).trans r20; have r31 := (hp3.cell (p := ⟨g1, 1, none⟩) (by show g1 < _; omega)).trans r21; have r32 := (hp3.cell (p := ⟨g1, 2, none⟩) (by show g1 < _; omega)).trans r22; have r33 := (hp3.cell (p := ⟨g1, 3, none⟩) (by show g1 < _; omega)).trans r23; have r34 := (hp3.cell (p := ⟨w.heap.size, 1, none⟩) (by show w.heap.size < _; omega)).trans r24; have r35 := (hp3.cell (p := ⟨w.heap.size + 1, 0, none⟩) (by show w.heap.size + 1 < _; omega)).trans r25; have r36 := (hp3.cell (p := ⟨w.heap.size + 1, 1, none⟩) (by show w.heap.size + 1 < _; omega)).trans r26; obtain ⟨ua, uc, ex, hu51, hu52⟩ := owns_slice ho5; subst ex; have HST := hid (started_b (x := xc) (s := s3) (by omega) hq3 ho5); clear ho5; clear hb3 hp3)
            | (go_at_call 14; (with_reducible refine (HK3.out _ ((Below.refl _ _).alloc (Nat.le_refl _) _)).mono ?_); rintro e y3 ⟨u5, rfl, ho5, hb3⟩; have hsz : y2.heap.size + 1 ≤ y3.heap.size := (by have := hb3.size; first | (rw [World.size_alloc] at this; exact this) | (rw [show ∀ c, (y2.alloc c).drew.heap.size = y2.heap.size + 1 from fun c => World.size_alloc _ _] at this; exact this)); have hp3 : Below y2.heap.size y2 y3 := ((Below.refl _ _).alloc (Nat.le_refl _) _).trans (hb3.mono (by first | (rw [World.size_alloc]; omega) | (show _ ≤ (y2.alloc _).heap.size; rw [World.size_alloc]; omega))); have hz : Zero4 y3 y2.heap.size := (hb3.block _ (by show _ < (y2.alloc _).heap.size; rw [World.size_alloc]; omega)).trans (heap_alloc_new _ _); have HZ := hid hz; have HZX := hid (show xc.heap.size ≤ y2.heap.size by omega); have HZL := hid (show y2.heap.size < y3.heap.size by omega); have hq3 : Below xc.heap.size xc y3 := hq2.trans (hp3.mono (by omega)); have r30 := (hp3.cell (p := ⟨g1, 0, none⟩) (by show g1 < _; omega)).trans r20; have r31 := (hp3.cell (p := ⟨g1, 1, none⟩) (by show g1 < _; omega)).trans r21; have r32 := (hp3.cell (p := ⟨g1, 2, none⟩) (by show g1 < _; omega)).trans r22; have r33 := (hp3.cell (p := ⟨g1, 3, none⟩) (by show g1 < _; omega)).trans r23; have r34 := (hp3.cell (p := ⟨w.heap.size, 1, none⟩) (by show w.heap.size < _; omega)).trans r24; have r35 := (hp3.cell (p := ⟨w.heap.size + 1, 0, none⟩) (by show w.heap.size + 1 < _; omega)).trans r25; have r36 := (hp3.cell (p := ⟨w.heap.size + 1, 1, none⟩) (by show w.heap.size + 1 < _; omega)).trans r26; obtain ⟨ua, uc, ex, hu51, hu52⟩ := owns_slice ho5; subst ex; have ho6 := owns_base ho5 (show y2.heap.size + 1 ≤ _ by first | (rw [World.size_alloc]; exact Nat.le_refl _) | (show _ ≤ (y2.alloc _).heap.size; rw [World.size_alloc]; exact Nat.le_refl _)); obtain ⟨m0, m1, m2, m3, f0, f1, f2, f3⟩ := zero4 HZ.out; have HST := hid (started_a (x := xc) (s := s3) HZX.out (Nat.lt_succ_self _) HZ.out hq3 ho6); clear ho6; clear ho5; clear hb3 hp3)
            | fail)
        all_goals (go_wp2_with fail; go_meet; case rel => exact HST.out)
      case rest =>
        obtain ⟨xd, hxd⟩ : ∃ x, x = wc := ⟨_, rfl⟩
        subst hxd
        obtain ⟨g3, ua3, uc3, rfl, hg3, hG3, hO3, hbd⟩ := hcut
        have hG2 := (hbd.block _ (by omega)).trans HG2c.out
        have HBd := hid (HBc.out.trans (hbd.mono (by omega)))
        have c0 : xd.cell? ⟨g2, 0, none⟩ = some (.int .i64 (stA s2 : Nat)) := (cell_of_row _ _ _ _ _ _ hG2).trans rfl
        have c1 : xd.cell? ⟨g2, 3, none⟩ = some (.bool s2.isSome) := (cell_of_row _ _ _ _ _ _ hG2).trans rfl
        have c2 : xd.cell? ⟨g3, 0, none⟩ = some (.int .i64 (stA s3 : Nat)) := (cell_of_row _ _ _ _ _ _ hG3).trans rfl
        have c3 : xd.cell? ⟨g3, 3, none⟩ = some (.bool s3.isSome) := (cell_of_row _ _ _ _ _ _ hG3).trans rfl
        have hle := (aft_le (bndP_top P) (k1, n1)).fst k2
        rw [aft_res] at hle
        simp only [← HS1.out, ← HP3.out, ← HS2.out, ← HS3.out] at hle
        obtain ⟨h1, h2⟩ := hle
        have h3 : (stA s2 : Int) ≤ (stA s3 : Int) := by omega
        have h4 : (s2.isSome == s3.isSome) = true := by rw [h1]; simp
        clear hG2 hG3 hO3 hbd h2
        generalize stA s2 = A2 at *
        generalize stA s3 = A3 at *
        go_wp2
        go_ret
        exact ⟨by simp, HBd.out⟩

/-! ### THE ROW's STEP -/
set_option maxRecDepth 100000 in
theorem lifted (os : Os) (started : os.Started) (H : Type) (enc : TypeId × Value → H) :
    ReturnsInHanded {} Try.checked os 9 .any (Rows.planLaterSpec.pre6 enc Try.prog Try.f9 Rows.planLaterRow.domain false) (Rows.planLaterSpec.post enc Try.prog Try.f9 false true false false) := by
  refine returnsInHanded_of_change (C := Try.checked) own started (by kernel_rfl) Try.func9
    (ChangeSpec.witness6 (enc := enc) (C := Try.checked) false ⟨#[], #[.slice none 0 0, .agg #[.int .i64 0, .int .i64 0], .agg #[.int .i64 0, .int .i64 0]], []⟩ 8 (by kernel_rfl) (by kernel_rfl) (by kernel_rfl) (by kernel_rfl)) ?_
  intro W base args ds gs before hval0 hW hcnd _
  have hval : ∀ (j : Nat) t v, Try.f9.params[j]? = some t → args[j]? = some v → Value.okWide Try.prog W .any base t v := hval0
  have hW' := hW
  obtain ⟨p, q, hA0, hV, rfl, hfz, hnd⟩ := hW
  have hA : DataW.TrodAll enc Try.prog W 0 (fun _ => true) true Try.f9.params.toList args.toList ds p := hA0
  rw [Try.params9] at hA hval
  obtain ⟨v0, vs0, d0, ds0, p0, q0, hargs, rfl, rfl, h0, r0⟩ := trodAll_cons hA
  obtain ⟨v1, vs1, d1, ds1, p1, q1, rfl, rfl, rfl, h1, r1⟩ := trodAll_cons r0
  obtain ⟨v2, vs2, d2, ds2, p2, q2, rfl, rfl, rfl, h2, r2⟩ := trodAll_cons r1
  obtain ⟨rfl, rfl, rfl⟩ := trodAll_nil r2
  obtain rfl : args = #[v0, v1, v2] := by cases args; simp_all
  obtain ⟨rfl, rfl⟩ := trodVars_none hV
  have k0 := h0
  have lt0 : ∀ x ∈ p0, x.block < W.heap.size := by obtain ⟨m, hm⟩ := k0; exact DataW.trod_lt m _ _ _ hm
  have k1 := h1
  have lt1 : ∀ x ∈ p1, x.block < W.heap.size := by obtain ⟨m, hm⟩ := k1; exact DataW.trod_lt m _ _ _ hm
  have k2 := h2
  have lt2 : ∀ x ∈ p2, x.block < W.heap.size := by obtain ⟨m, hm⟩ := k2; exact DataW.trod_lt m _ _ _ hm
  obtain ⟨a0, len0, cap0, rfl⟩ := okWide_slice Try.underlying22 (hval 0 22 v0 rfl rfl)
  have w0 : IsMatI W a0 len0 cap0 := isMatI_of h0
  have w1 : IsAsk W v1 := isAsk_of (hval 1 24 v1 rfl rfl) h1
  have w2 : IsAsk W v2 := isAsk_of (hval 2 24 v2 rfl rfl) h2
  clear hA0 hval0
  refine (walk a0 len0 cap0 v1 v2 W w0 w1 w2).mono fun e W' ⟨he, bel⟩ => ?_
  subst he
  exact ⟨_, rfl, _, _, _, [], _, [], hW', trodAll_mk1 (shut_bool Try.underlying4 _), (trodAll_cons_mk (Below.trod laidOut (by kernel_rfl) (of_decide_eq_true (by kernel_rfl)) k0 bel lt0) (trodAll_cons_mk (Below.trod laidOut (by kernel_rfl) (of_decide_eq_true (by kernel_rfl)) k1 bel lt1) (trodAll_cons_mk (Below.trod laidOut (by kernel_rfl) (of_decide_eq_true (by kernel_rfl)) k2 bel lt2) trodAll_mk0))), rfl, bel.frame _, fun h => by cases h⟩

theorem over : Rows.planLaterRow.holds Try.pinned (OpenSpec.ofChange Rows.planLaterSpec) :=
  OpenClaim.holds_of_wide 9 Try.f9 rfl rfl rfl rfl rfl rfl rfl ⟨rfl, rfl, rfl, rfl, rfl⟩ rfl rfl rfl rfl rfl (by kernel_rfl) Try.func9 (by kernel_rfl)
    (of_decide_eq_true (by kernel_rfl)) (by unfold Func.isWrapper; first | (rw [if_pos (by decide +kernel)]; kernel_rfl) | (rw [if_neg (by decide +kernel)]; exact ⟨rfl, rfl⟩))
    (fun os started H enc _ => lifted os started H enc)

/-- THE STATEMENT -/
theorem planLater_holds : Rows.PlanLaterSaid := over
#print axioms planLater_holds
end Go.Proofs.Ytecojmpiaaehlaa.planLater
