/-
  Contracts of plan: Delays.
-/
import Derived.Test.YtecojmpiaaehlaaPlT
namespace Go.Proofs.Ytecojmpiaaehlaa
open Go.RowKit Go.Shelf
set_option linter.unusedVariables false

theorem below_behind {B : Nat} {w w' : World} (h : Below B w w') (n : Nat) : Below B w (w'.drewN n) := ⟨h.os, h.tape, h.output, h.size, h.block⟩
/-- Does any of the first n start later? -/
def later (S S' : List Found) (n : Nat) : Bool := (List.range n).any fun i => decide (stA (S.getD i none) < stA (S'.getD i none))
theorem later_succ (S S' : List Found) (n : Nat) : later S S' (n + 1) = (later S S' n || decide (stA (S.getD n none) < stA (S'.getD n none))) := by
  unfold later
  rw [List.range_succ, List.any_append]
  simp
def natP (p : List (List Nat)) : List (List Int) := p.map (·.map Int.ofNat)
theorem bnd_natP {p : List (List Nat)} (h : ∀ l ∈ p, ∀ x ∈ l, x ≤ topN) : bndP (natP p) = p := by
  unfold bndP natP
  rw [List.map_map]
  conv => rhs; rw [← List.map_id p]
  refine List.map_congr_left fun l hl => ?_
  show (l.map Int.ofNat).map bnd = l
  rw [List.map_map]
  conv => rhs; rw [← List.map_id l]
  exact List.map_congr_left fun x hx => bnd_nat (h l hl x hx)
theorem PfAt.rdp {w : World} {lo bc : Nat} {g : Nat → Nat} {p : List (List Nat)} (h : PfAt w lo bc g p) : RdP w (.slice (some ⟨bc, 0, none⟩) p.length p.length) (natP p) := by
  have hl : (natP p).length = p.length := by simp [natP]
  refine .inr ⟨bc, 0, p.length, by rw [hl], by rw [hl]; exact Nat.le_refl _, by have := h.len; omega, h.bcl, fun i r hi => ?_⟩
  unfold natP at hi
  rw [List.getElem?_map] at hi
  cases hp : p[i]? with
  | none => rw [hp] at hi; cases hi
  | some l =>
    rw [hp] at hi
    cases hi
    rw [Nat.zero_add]
    have e : (l.map Int.ofNat).length = l.length := by simp
    dsimp only
    rw [e]
    exact ⟨_, _, h.row i l hp, by rw [iw_iv]; exact h.rd i l hp⟩

set_option maxRecDepth 100000 in
set_option maxHeartbeats 4000000 in
theorem delays_any (w : World) (v va : Value) (P : List (List Int)) (L : List (Int × Int)) (at_ row len : Int) (ns : List Int) (ok : Bool) (u : Value) (h : RdP w v P) (hl : P.length ≤ 1000) (hrl : ∀ r ∈ P, r.length ≤ 1000) (ha : RdA w va L) (hL : L.length ≤ 1000) (hu : RdW w u (ns.map iw)) (hnl : ns.length ≤ 1000) :
    Calls Try.prog 24 #[v, va, .agg #[.int .i64 at_, .int .i64 row, u, .bool ok], .int .i64 len] w fun e w' => e = .returned (.bool (later (planL (bndP P) L) (planL (resI (bndP P) ok at_ row ns len) L) L.length)) ∧ Below w.heap.size w w' := by
  obtain ⟨a, c, rfl, hc1, hc2⟩ := h.len
  obtain ⟨aa, ac, rfl, hac1, hac2⟩ := ha.len
  obtain ⟨ua, uc, rfl, hu1, hu2⟩ := hu.len
  rw [List.length_map] at hu hu1
  have HH := hid h
  have HA := hid ha
  have HU := hid hu
  clear h ha hu
  rw [List.length_map]
  have hQ1 : (resR P ok row ns (addT at_ (max len 1))).length ≤ 1000 := by rw [resR_len]; exact hl
  go_enter Try.func24, Try.ntmps24
  go_wp2_with fail
  obtain ⟨w1, hw1⟩ : ∃ w1, w1 = w.alloc (.cells #[.int .i64 at_, .int .i64 row, .slice ua ns.length uc, .bool ok] 32) := ⟨_, rfl⟩
  rw [← hw1]
  have hs1 : w1.heap.size = w.heap.size + 1 := by rw [hw1]; simp
  have hb1 : Below w.heap.size w w1 := by rw [hw1]; exact (Below.refl _ w).alloc (Nat.le_refl _) _
  have hb1d : Below w.heap.size w w1.drew := hb1.drew
  have g1 : w1.drew.heap[w.heap.size]? = some (.cells #[.int .i64 at_, .int .i64 row, .slice ua ns.length uc, .bool ok] 32 (0, 0)) := by rw [hw1]; exact heap_alloc_new w _
  have q0 : w1.drew.cell? ⟨w.heap.size, 0, none⟩ = some (.int .i64 at_) := (cell_of_row _ _ _ _ _ _ g1).trans rfl
  have q1 : w1.drew.cell? ⟨w.heap.size, 1, none⟩ = some (.int .i64 row) := (cell_of_row _ _ _ _ _ _ g1).trans rfl
  have q2 : w1.drew.cell? ⟨w.heap.size, 2, none⟩ = some (.slice ua ns.length uc) := (cell_of_row _ _ _ _ _ _ g1).trans rfl
  have q3 : w1.drew.cell? ⟨w.heap.size, 3, none⟩ = some (.bool ok) := (cell_of_row _ _ _ _ _ _ g1).trans rfl
  have HC1 := hid (plan_any w1.drew _ _ P L (HH.out.all hb1d) hl hrl (HA.out.all hb1d) hL)
  have HB1 := hid hb1d
  have HG1 := hid g1
  have hsd : w1.drew.heap.size = w.heap.size + 1 := hs1
  clear hw1 hb1 hb1d g1 hs1
  go_region_held3 (fun w' => w'.cell? ⟨w.heap.size, 0, none⟩ = some (.int .i64 at_) ∧ w'.cell? ⟨w.heap.size, 1, none⟩ = some (.int .i64 row) ∧ w'.cell? ⟨w.heap.size, 2, none⟩ = some (.slice ua ns.length uc) ∧ w'.cell? ⟨w.heap.size, 3, none⟩ = some (.bool ok))
    (first | (refine ⟨?_, ?_, ?_, ?_⟩ <;> assumption) | fail)
    (first
      | (go_at_call 21; with_reducible refine HC1.out.mono ?_; rintro e w2 ⟨u1, rfl, hst1, hb2⟩; obtain ⟨va1, vc1, rfl, hv11, hv12⟩ := hst1.len; have hg2 := (hb2.block _ (by rw [hsd]; omega)).trans HG1.out; have r0 : w2.cell? ⟨w.heap.size, 0, none⟩ = some (.int .i64 at_) := (cell_of_row _ _ _ _ _ _ hg2).trans rfl; have r1 : w2.cell? ⟨w.heap.size, 1, none⟩ = some (.int .i64 row) := (cell_of_row _ _ _ _ _ _ hg2).trans rfl; have r2 : w2.cell? ⟨w.heap.size, 2, none⟩ = some (.slice ua ns.length uc) := (cell_of_row _ _ _ _ _ _ hg2).trans rfl; have r3 : w2.cell? ⟨w.heap.size, 3, none⟩ = some (.bool ok) := (cell_of_row _ _ _ _ _ _ hg2).trans rfl; have hsz2 := hb2.size; have hb02 := HB1.out.trans (hb2.mono (by omega)); have HC2 := hid (xreserve_any w2 _ P at_ row len ns ok (.slice ua ns.length uc) (HH.out.all hb02) hl hrl (HU.out.all hb02) hnl); have HB02 := hid hb02; have HG2 := hid hg2; have HS1 := hid hst1; clear hst1 hb2 hg2 hb02)
      | (go_at_call 18; with_reducible refine HC2.out.mono ?_; rintro e w3 ⟨bc, g, rfl, hp3, hb3⟩; have hg3 := (hb3.block _ (by omega)).trans HG2.out; have s0 : w3.cell? ⟨w.heap.size, 0, none⟩ = some (.int .i64 at_) := (cell_of_row _ _ _ _ _ _ hg3).trans rfl; have s1 : w3.cell? ⟨w.heap.size, 1, none⟩ = some (.int .i64 row) := (cell_of_row _ _ _ _ _ _ hg3).trans rfl; have s2 : w3.cell? ⟨w.heap.size, 2, none⟩ = some (.slice ua ns.length uc) := (cell_of_row _ _ _ _ _ _ hg3).trans rfl; have s3 : w3.cell? ⟨w.heap.size, 3, none⟩ = some (.bool ok) := (cell_of_row _ _ _ _ _ _ hg3).trans rfl; have hsz3 := hb3.size; have hb03 := HB02.out.trans (hb3.mono (by omega)); have hrdp := hp3.rdp; rw [resR_len] at hrdp; have hpl := plan_any w3 _ _ (resR P ok row ns (addT at_ (max len 1))) L hrdp hQ1 hp3.rlen (HA.out.all hb03) hL; rw [bnd_resR] at hpl; have HC3 := hid hpl; have HB03 := hid hb03; have HG3 := hid hg3; have HS13 := hid (HS1.out.below hb3); clear hp3 hb3 hg3 hb03 hrdp hpl)
      | (go_at_call 21; with_reducible refine HC3.out.mono ?_; rintro e w4 ⟨u2, rfl, hst2, hb4⟩; obtain ⟨va2, vc2, rfl, hv21, hv22⟩ := hst2.len; have hg4 := (hb4.block _ (by omega)).trans HG3.out; have t0 : w4.cell? ⟨w.heap.size, 0, none⟩ = some (.int .i64 at_) := (cell_of_row _ _ _ _ _ _ hg4).trans rfl; have t1 : w4.cell? ⟨w.heap.size, 1, none⟩ = some (.int .i64 row) := (cell_of_row _ _ _ _ _ _ hg4).trans rfl; have t2 : w4.cell? ⟨w.heap.size, 2, none⟩ = some (.slice ua ns.length uc) := (cell_of_row _ _ _ _ _ _ hg4).trans rfl; have t3 : w4.cell? ⟨w.heap.size, 3, none⟩ = some (.bool ok) := (cell_of_row _ _ _ _ _ _ hg4).trans rfl; have hsz4 := hb4.size; have HB04 := hid (HB03.out.trans (hb4.mono (by omega))); have HS14 := hid (HS13.out.below hb4); have HS24 := hid hst2; clear hst2 hb4 hg4)
      | fail)
  simp only [planL_len] at *
  obtain ⟨S, hS⟩ : ∃ S, S = planL (bndP P) L := ⟨_, rfl⟩
  obtain ⟨S', hS'⟩ : ∃ S', S' = planL (resI (bndP P) ok at_ row ns len) L := ⟨_, rfl⟩
  have hSl : S.length = L.length := by rw [hS]; exact planL_len _ _
  have hSl' : S'.length = L.length := by rw [hS']; exact planL_len _ _
  rw [← hS] at HS14
  rw [← hS'] at HS24
  have HSS := hid hS
  have HSS' := hid hS'
  clear hS hS' q0 q1 q2 q3 r0 r1 r2 r3 s0 s1 s2 s3 t0 t1 t2 t3
  go_wp2_with fail
  go_loopw [23] (fun i wr => ∃ k : Nat, k ≤ L.length ∧ i = .int .i64 k ∧ later S S' k = false ∧ Below w4.heap.size w4 wr) (fun i _ => L.length - (intOf i).toNat)
  case atStart => exact ⟨0, Nat.zero_le _, rfl, rfl, Below.refl _ _⟩
  case round =>
    obtain ⟨k, hk, rfl, hla, hB⟩ := hrel
    have HB := hid hB
    have HLA := hid hla
    clear hla
    by_cases hlt : k < L.length
    · obtain ⟨s, hx⟩ : ∃ s, S[k]? = some s := ⟨_, List.getElem?_eq_getElem (by omega)⟩
      obtain ⟨s', hx'⟩ : ∃ s, S'[k]? = some s := ⟨_, List.getElem?_eq_getElem (by omega)⟩
      obtain ⟨b1, rfl, -, -, u1, hr1, -⟩ := (HS14.out.below hB).at k s hx
      obtain ⟨b2, rfl, -, -, u2, hr2, -⟩ := (HS24.out.below hB).at k s' hx'
      have z1 : wr.cell? ⟨b1, k * 4, none⟩ = some (.int .i64 (stA s : Nat)) := hr1 0 _ rfl
      have z2 : wr.cell? ⟨b2, k * 4, none⟩ = some (.int .i64 (stA s' : Nat)) := hr2 0 _ rfl
      have hki : (k : Int) < (L.length : Int) := by omega
      have HLS := hid (show later S S' (k + 1) = decide (stA s < stA s') by
        rw [later_succ, HLA.out, List.getD_eq_getElem?_getD, List.getD_eq_getElem?_getD, hx, hx']; rfl)
      clear hr1 hr2 hx hx' hB
      generalize stA s = A at *
      generalize stA s' = A' at *
      by_cases hAA : A < A'
      · have d1 : decide ((A' : Int) > (A : Int)) = true := decide_eq_true (by omega)
        have d2 : decide ((A : Int) < (A' : Int)) = true := decide_eq_true (by omega)
        have d3 : decide (A < A') = true := decide_eq_true hAA
        have HQ := hid (show later S S' L.length = true by
          have h1 : later S S' (k + 1) = true := by rw [HLS.out]; exact d3
          unfold later at h1 ⊢
          rw [List.any_eq_true] at h1 ⊢
          obtain ⟨i, hi, h2⟩ := h1
          exact ⟨i, List.mem_range.2 (by have := List.mem_range.1 hi; omega), h2⟩)
        clear hAA
        go_wp2_with fail
        go_quiet (fail)
        go_wp2_with fail
        go_ret
        exact ⟨by rw [← HSS.out, ← HSS'.out, HQ.out]; rfl, below_behind ((HB04.out.trans (HB.out.mono HB04.out.size))) _⟩
      · have d1 : decide ((A' : Int) > (A : Int)) = false := decide_eq_false (by omega)
        have d2 : decide ((A : Int) < (A' : Int)) = false := decide_eq_false (by omega)
        have d3 : decide (A < A') = false := decide_eq_false hAA
        have HQ := hid (show later S S' (k + 1) = false by rw [HLS.out]; exact d3)
        clear hAA
        go_wp2_with fail
        go_quiet (fail)
        go_wp2_with fail
        go_roundw
        case rel => exact ⟨k + 1, hlt, by go_num, HQ.out, below_behind HB.out _⟩
        case measure => simp [intOf]; omega
    · have e : k = L.length := by omega
      have hki : ¬ (k : Int) < (L.length : Int) := by omega
      rw [e] at HLA
      clear e hlt hB
      go_wp2
      go_ret
      exact ⟨by rw [← HSS.out, ← HSS'.out, HLA.out]; rfl, HB04.out.trans (HB.out.mono HB04.out.size)⟩

end Go.Proofs.Ytecojmpiaaehlaa
