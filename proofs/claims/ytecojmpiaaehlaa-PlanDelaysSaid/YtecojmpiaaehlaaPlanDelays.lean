/-
  P14.2: whether anybody waits longer is told as the document's two plans tell it.
  (The frame behind the walk is the guide's shell, at these parameters.)
-/
import Derived.Test.YtecojmpiaaehlaaRows
import Derived.WalkKit
import Derived.Test.YtecojmpiaaehlaaRfS
import Derived.Test.YtecojmpiaaehlaaPlZ
import Derived.Test.YtecojmpiaaehlaaRfF
import Derived.ProofKit
import Derived.Deep.Cut
import Derived.Deep.CutRange
import Derived.Deep.CutBlock
import Derived.Deep.Grids
import Derived.OpenShut
import Derived.ShutString
import Derived.ChangeOld
import Derived.Below
namespace Go.Proofs.Ytecojmpiaaehlaa.planDelays
open Go.ChangeShapes Go.WideShapes Go.ChangeAt Go.RowKit
open Go.ChangeMaps (open_string shut_string)
set_option linter.unusedVariables false

theorem own : ownKnob Try.prog.godebug = none := by kernel_rfl
theorem laidOut : laidOutB Try.prog = true := by kernel_rfl

theorem rda_take {w : World} {a : Option Addr} {n cap : Nat} {L : List (Int × Int)} (h : RdA w (.slice a n cap) L) {m : Nat} (hm : m ≤ L.length) : RdA w (.slice a m cap) (L.take m) := by
  obtain ⟨a', cap', e, h1, h2, h3⟩ := h
  simp only [Value.slice.injEq] at e
  obtain ⟨rfl, -, rfl⟩ := e
  have hl : (L.take m).length = m := by rw [List.length_take]; omega
  refine ⟨_, _, by rw [hl], by omega, h2, fun j x hj => ?_⟩
  rw [List.getElem?_take] at hj
  split at hj
  · exact h3 j x hj
  · cases hj
theorem found_len {p : List (List Nat)} {K : Int} {t r : Nat} {ns : List Nat} (h : first p K = some (t, r, ns)) : ns.length ≤ (p.getD r []).length := by
  obtain ⟨hr, k, -, hk, hT, hns⟩ := first_row h
  rw [hns]
  unfold sel selTo
  exact Nat.le_trans (List.length_filter_le _ _) (by simp)
theorem bnd_row {P : List (List Int)} (h : ∀ r ∈ P, r.length ≤ 20) (r : Nat) : ((bndP P).getD r []).length ≤ 20 := by
  rw [List.getD_eq_getElem?_getD]
  unfold bndP
  rw [List.getElem?_map]
  cases hr : P[r]? with
  | none => simp
  | some l => simpa [bndL] using h l (List.mem_of_getElem? hr)

theorem setI_len (l : List Nat) (ns : List Int) (e : Nat) : (setI l ns e).length = l.length := by
  unfold setI
  induction ns generalizing l with
  | nil => rfl
  | cons n ns ih => rw [List.foldl_cons, ih]; split <;> simp
theorem aft_rl (p : List (List Nat)) (a : Int × Int) (r : Nat) : ((aft p a).getD r []).length = (p.getD r []).length := by
  rw [aft_res]
  unfold resI
  split
  · rename_i h
    rw [List.getD_eq_getElem?_getD, List.getD_eq_getElem?_getD, List.getElem?_set]
    by_cases hr : (stR (first p a.1) : Int).toNat = r
    · subst hr
      rw [if_pos rfl, if_pos (by omega)]
      simp only [Option.getD_some, setI_len]
      rw [List.getD_eq_getElem?_getD]
    · rw [if_neg hr, List.getD_eq_getElem?_getD]
  · rfl
theorem planAt_take {p : List (List Nat)} {L : List (Int × Int)} {n j : Nat} (hj : j < n) : planAt p (L.take n) j = planAt p L j := by
  unfold planAt
  rw [List.take_take, Nat.min_eq_left (by omega), List.getD_eq_getElem?_getD, List.getD_eq_getElem?_getD, List.getElem?_take, if_pos hj]
theorem planned_20 {P : List (List Int)} (h : ∀ r ∈ P, r.length ≤ 20) (L : List (Int × Int)) (j : Nat) : (stN (planAt (bndP P) L j)).length ≤ 20 := by
  cases hf : planAt (bndP P) L j with
  | none => simp [stN]
  | some s =>
    obtain ⟨t, r, ns⟩ := s
    have h1 := found_len (show first (aftL (bndP P) (L.take j)) (L.getD j (0, 0)).1 = _ from hf)
    have h2 : ((aftL (bndP P) (L.take j)).getD r []).length ≤ 20 := by
      have hg : ∀ (l : List (Int × Int)) (p : List (List Nat)), (p.getD r []).length ≤ 20 → ((aftL p l).getD r []).length ≤ 20 := by
        intro l
        induction l with
        | nil => intro p hp; exact hp
        | cons b l ih => intro p hp; exact ih (aft p b) (by rw [aft_rl]; exact hp)
      exact hg _ _ (bnd_row h r)
    exact Nat.le_trans h1 h2
theorem row_caps {w : World} {A : Option Addr} {L C : Nat} {zs : List Int} (h : IsRow .i64 w A L C zs) : L ≤ C ∧ C ≤ 9223372036854775807 := by
  rcases h with ⟨rfl, rfl, rfl, rfl⟩ | ⟨x, rfl, h1, h2, h3, h4, h5⟩
  · exact ⟨Nat.le_refl _, by omega⟩
  · exact ⟨h1, by unfold maxLen at h2; exact h2⟩
theorem start_nodes {w : World} {A : Option Addr} {L C : Nat} {zs : List Int} (h : IsRow .i64 w A L C zs) : ∃ (ns : List Int) (n : Nat), ns.length = n ∧ n ≤ 20 ∧ n = min L 20 ∧ RdW w (.slice A n C) (ns.map iw) := by
  have hc := row_caps h
  obtain ⟨h1, h2⟩ := h.srcI (min L 20) (Nat.min_le_left _ _)
  refine ⟨zs.take (min L 20), min L 20, h1, Nat.min_le_right _ _, rfl, A, C, by rw [List.length_map, h1], by rw [List.length_map, h1]; omega, hc.2, fun j x hj => ?_⟩
  rw [List.getElem?_map] at hj
  cases hz : (zs.take (min L 20))[j]? with
  | none => rw [hz] at hj; cases hj
  | some y =>
    rw [hz] at hj
    cases hj
    exact h2 j y hz
theorem resI_rl {p : List (List Nat)} {ok : Bool} {at_ row : Int} {ns : List Int} {len : Int} (r : Nat) : ((resI p ok at_ row ns len).getD r []).length = (p.getD r []).length := by
  unfold resI
  split
  · rename_i h
    rw [List.getD_eq_getElem?_getD, List.getD_eq_getElem?_getD, List.getElem?_set]
    by_cases hr : row.toNat = r
    · subst hr
      rw [if_pos rfl, if_pos (by omega)]
      simp only [Option.getD_some, setI_len]
      rw [List.getD_eq_getElem?_getD]
    · rw [if_neg hr, List.getD_eq_getElem?_getD]
  · rfl
theorem planned_any {p : List (List Nat)} {n : Nat} (h : ∀ r, (p.getD r []).length ≤ n) (L : List (Int × Int)) (j : Nat) : (stN (planAt p L j)).length ≤ n := by
  cases hf : planAt p L j with
  | none => simp [stN]
  | some s =>
    obtain ⟨t, r, ns⟩ := s
    have h1 := found_len (show first (aftL p (L.take j)) (L.getD j (0, 0)).1 = _ from hf)
    have hg : ∀ (l : List (Int × Int)) (p : List (List Nat)), (p.getD r []).length ≤ n → ((aftL p l).getD r []).length ≤ n := by
      intro l
      induction l with
      | nil => intro p hp; exact hp
      | cons b l ih => intro p hp; exact ih (aft p b) (by rw [aft_rl]; exact hp)
    exact Nat.le_trans h1 (hg _ _ (h r))

set_option maxRecDepth 100000 in
set_option maxHeartbeats 8000000 in
theorem walk (a0 : Option Addr) (len0 cap0 : Nat) (a1 : Option Addr) (len1 cap1 : Nat) (v2 : Value) (a3 : Int) (w : World) (w0 : IsMatI w a0 len0 cap0) (w1 : IsAsks w a1 len1 cap1) (w2 : IsStart w v2) (w3 : (Lit.int .i64 a3).wf = true) :
    Calls Try.prog 6 #[.slice a0 len0 cap0, .slice a1 len1 cap1, v2, .int .i64 a3] w fun e w' => e = .returned (.bool true) ∧ Below w.heap.size w w' := by
  obtain ⟨ts, hraw⟩ := w0.raw
  obtain ⟨L, hL, hrda⟩ := w1.rda
  obtain ⟨hlc, hcm⟩ := w1.bounds
  obtain ⟨at_, row, NA, NL, NC, ok, zs, rfl, hns⟩ := w2
  obtain ⟨ht10, ht20⟩ := raw_take hraw
  have HR := hid hraw
  have HA := hid hrda
  have HT10 := hid ht10
  have HT20 := hid ht20
  have HL20 := hid (show L.length ≤ 20 by omega)
  have HL := hid hL
  have HPROF := hid (fun w' (h : Below w.heap.size w w') => profile_any w' a0 len0 cap0 ts (HR.out.all h))
  have HFEW := hid (fun w' (h : Below w.heap.size w w') => few_any w' a0 len0 cap0 ts (HR.out.all h))
  obtain ⟨ns, n, hnn, hn20, hnL, hrdw⟩ : ∃ (ns : List Int) (n : Nat), ns.length = n ∧ n ≤ 20 ∧ n = min NL 20 ∧ RdW w (.slice NA n NC) (ns.map iw) := start_nodes hns
  obtain ⟨hNLC, hNCm⟩ := row_caps hns
  have HNN := hid hnn
  have HRW := hid hrdw
  have hmn : (if (20 : Int) < (NL : Int) then (20 : Int) else (NL : Int)) = (n : Int) := by split <;> omega
  have hmn2 : min (NL : Int) 20 = (n : Int) := by omega
  have hnNL : n ≤ NL := by omega
  clear w0 w1 w3 hraw hrda ht10 ht20 hL HR hns hnn hrdw hnL
  generalize ts.take 10 = P at *
  go_enter Try.func6, Try.ntmps6
  go_wp2_with fail
  obtain ⟨x1, hx1⟩ : ∃ x1, x1 = w.alloc (.cells #[.int .i64 at_, .int .i64 row, .slice NA NL NC, .bool ok] 27) := ⟨_, rfl⟩
  have hs1 : x1.heap.size = w.heap.size + 1 := by rw [hx1]; simp
  have hb1 : Below w.heap.size w x1 := by rw [hx1]; exact (Below.refl _ w).alloc (Nat.le_refl _) _
  have HG1 := hid (show x1.heap[w.heap.size]? = some (.cells #[.int .i64 at_, .int .i64 row, .slice NA NL NC, .bool ok] 27 (0, 0)) by rw [hx1]; exact heap_alloc_new w _)
  have HB1 := hid hb1
  rw [← hx1]
  clear hx1 hb1
  refine (awake14_any x1).mono ?_
  rintro e xa ⟨rfl, hba⟩
  have hsa : w.heap.size + 1 ≤ xa.heap.size := by have := hba.size; omega
  have HBa := hid (HB1.out.trans (hba.mono (by omega)))
  have hga := (hba.block _ (by omega)).trans HG1.out
  have c2 : xa.cell? ⟨w.heap.size, 2, none⟩ = some (.slice NA NL NC) := (cell_of_row _ _ _ _ _ _ hga).trans rfl
  have f2 : xa.frozen? ⟨w.heap.size, 2, none⟩ = false := frozen_of_row _ _ _ _ _ hga
  have HGa := hid hga
  clear hba hs1 HB1 HG1 hga
  go_wp2_with fail
  obtain ⟨xb, hxb⟩ : ∃ x, x = xa.setCell ⟨w.heap.size, 2, none⟩ (.slice NA n NC) := ⟨_, rfl⟩
  have HGb := hid (show xb.heap[w.heap.size]? = some (.cells #[.int .i64 at_, .int .i64 row, .slice NA n NC, .bool ok] 27 (0, 0)) by
    rw [hxb, heap_setCell_arr _ _ _ _ _ _ _ HGa.out]; simp)
  have HBb := hid (show Below w.heap.size w xb by rw [hxb]; exact HBa.out.setCell (Nat.le_refl _) _)
  have hsb : w.heap.size + 1 ≤ xb.heap.size := by rw [hxb]; simpa [World.setCell] using hsa
  rw [← hxb]
  clear hxb c2 f2 HGa HBa hsa
  refine (asks_any xb a1 len1 cap1 L HL.out hlc hcm (HA.out.all HBb.out)).mono ?_
  rintro e xc ⟨u, rfl, hu, hbc⟩
  obtain ⟨ua, uc, rfl, hu1, hu2⟩ := hu.len
  have HU := hid hu
  have HBc := hid (HBb.out.trans (hbc.mono (by omega)))
  have hsc : w.heap.size + 1 ≤ xc.heap.size := by have := hbc.size; omega
  have HGc := hid ((hbc.block _ (by omega)).trans HGb.out)
  clear hu hbc HBb HGb hsb
  obtain ⟨S1, hS1⟩ : ∃ S, S = planL (bndP P) L := ⟨_, rfl⟩
  obtain ⟨S2, hS2⟩ : ∃ S, S = planL (resI (bndP P) ok at_ row ns a3) L := ⟨_, rfl⟩
  have hSl1 : S1.length = L.length := by rw [hS1]; exact planL_len _ _
  have hSl2 : S2.length = L.length := by rw [hS2]; exact planL_len _ _
  have hP10 : P.length ≤ 1000 := by have := HT10.out; omega
  have HP20 := hid (show ∀ r ∈ P, r.length ≤ 1000 from fun r hr => by have := HT20.out r hr; omega)
  have hn1000 : ns.length ≤ 1000 := by rw [HNN.out]; omega
  have HR1 := hid (fun w8 (hb : Below w.heap.size w w8) v8 (h : RdP w8 v8 P) => rplan_any w8 v8 _ P L h hP10 HP20.out (HA.out.all hb) (by have := HL20.out; omega) (fun j => by have := planned_any (bnd_row HT20.out) L j; omega))
  have HRR := hid (fun w8 (hb : Below w.heap.size w w8) v8 (h : RdP w8 v8 P) => rreserve_any w8 v8 P at_ row a3 ns ok (.slice NA n NC) h hP10 HP20.out (HRW.out.all hb) hn1000)
  obtain ⟨P', hP'⟩ : ∃ P', P' = resR P ok row ns (addT at_ (max a3 1)) := ⟨_, rfl⟩
  have hbp : bndP P' = resI (bndP P) ok at_ row ns a3 := by rw [hP']; exact bnd_resR _ _ _ _ _ _
  have HR2 := hid (fun w8 (hb : Below w.heap.size w w8) v8 (h : RdP w8 v8 P') => rplan_any w8 v8 _ P' L h (by rw [hP', resR_len]; exact hP10) (by rw [hP']; exact resR_rlen HP20.out _ _ _ _) (HA.out.all hb) (by have := HL20.out; omega) (fun j => by rw [hbp]; have := planned_any (p := resI (bndP P) ok at_ row ns a3) (n := 20) (fun r => by rw [resI_rl]; exact bnd_row HT20.out r) L j; omega))
  have HD := hid (fun w8 (hb : Below xc.heap.size xc w8) v8 (h : RdP w8 v8 P) => delays_any w8 v8 _ P L at_ row a3 ns ok (.slice NA n NC) h hP10 HP20.out (HU.out.all hb) (by have := HL20.out; omega) (HRW.out.all (HBc.out.trans (hb.mono (by omega)))) hn1000)
  rw [← hP'] at HRR
  rw [hbp] at HR2
  simp only [← hS1, ← hS2] at HR1 HR2 HD
  have HS9 := hid (And.intro hS1 hS2)
  clear hS1 hS2 hbp hP' HT10 HT20 HU hP10 hn1000
  have hl20 := HL20.out
  have HSl1 := hid hSl1
  have HSl2 := hid hSl2
  have HSa := hid (show ∀ k, k < L.length → ∃ s s' : Found, S1[k]? = some s ∧ S2[k]? = some s' ∧ S1.getD k none = s ∧ S2.getD k none = s' from fun k hk => by
    obtain ⟨s, h1⟩ : ∃ s, S1[k]? = some s := ⟨_, List.getElem?_eq_getElem (by omega)⟩
    obtain ⟨s', h2⟩ : ∃ s, S2[k]? = some s := ⟨_, List.getElem?_eq_getElem (by omega)⟩
    exact ⟨s, s', h1, h2, by rw [List.getD_eq_getElem?_getD, h1]; rfl, by rw [List.getD_eq_getElem?_getD, h2]; rfl⟩)
  clear hSl1 hSl2
  generalize hln : L.length = ln at *
  go_wp2_with fail
  have e0 : xc.drew.cell? ⟨w.heap.size, 0, none⟩ = some (.int .i64 at_) := (cell_of_row xc _ _ _ _ _ HGc.out).trans rfl
  have e1 : xc.drew.cell? ⟨w.heap.size, 1, none⟩ = some (.int .i64 row) := (cell_of_row xc _ _ _ _ _ HGc.out).trans rfl
  have e2 : xc.drew.cell? ⟨w.heap.size, 2, none⟩ = some (.slice NA n NC) := (cell_of_row xc _ _ _ _ _ HGc.out).trans rfl
  have e3 : xc.drew.cell? ⟨w.heap.size, 3, none⟩ = some (.bool ok) := (cell_of_row xc _ _ _ _ _ HGc.out).trans rfl
  have hscd : xc.drew.heap.size = xc.heap.size := rfl
  have HC1 := hid (HFEW.out xc.drew HBc.out.drew)
  go_region_held3 (fun w' => w'.cell? ⟨w.heap.size, 0, none⟩ = some (.int .i64 at_) ∧ w'.cell? ⟨w.heap.size, 1, none⟩ = some (.int .i64 row) ∧ w'.cell? ⟨w.heap.size, 2, none⟩ = some (.slice NA n NC) ∧ w'.cell? ⟨w.heap.size, 3, none⟩ = some (.bool ok))
    (first | (with_reducible refine ⟨?_, ?_, ?_, ?_⟩ <;> assumption) | fail)
    (first
      | (go_at_call 13; (with_reducible refine HC1.out.mono ?_); rintro e w2 ⟨v2, rfl, hv2, hb2⟩; have hp2 : Below xc.heap.size xc w2 := (Below.refl _ _).drew.trans hb2; have hq2 : xc.heap.size ≤ w2.heap.size := hp2.size; have t20 := (hb2.cell (p := ⟨w.heap.size, 0, none⟩) (by show w.heap.size < _; omega)).trans e0; have t21 := (hb2.cell (p := ⟨w.heap.size, 1, none⟩) (by show w.heap.size < _; omega)).trans e1; have t22 := (hb2.cell (p := ⟨w.heap.size, 2, none⟩) (by show w.heap.size < _; omega)).trans e2; have t23 := (hb2.cell (p := ⟨w.heap.size, 3, none⟩) (by show w.heap.size < _; omega)).trans e3; have HC2 := hid (HR1.out w2 (HBc.out.trans (hp2.mono (by omega))) _ hv2); have HD2 := hid hp2; clear hv2 hb2 hp2)
      | (go_at_call 22; (with_reducible refine HC2.out.mono ?_); rintro e w3 ⟨v3, rfl, hst, hb3⟩; obtain ⟨sa, sc, ex, hsc1, hsc2⟩ := hst.len; rw [HSl1.out] at ex hsc1; subst ex; have hp3 := HD2.out.trans (hb3.mono hq2); have hq3 : xc.heap.size ≤ w3.heap.size := hp3.size; have t30 := (hb3.cell (p := ⟨w.heap.size, 0, none⟩) (by show w.heap.size < _; omega)).trans t20; have t31 := (hb3.cell (p := ⟨w.heap.size, 1, none⟩) (by show w.heap.size < _; omega)).trans t21; have t32 := (hb3.cell (p := ⟨w.heap.size, 2, none⟩) (by show w.heap.size < _; omega)).trans t22; have t33 := (hb3.cell (p := ⟨w.heap.size, 3, none⟩) (by show w.heap.size < _; omega)).trans t23; have HST := hid hst; have HD3 := hid hp3; have HC3 := hid (HFEW.out w3 (HBc.out.trans (hp3.mono (by omega)))); clear hst hb3 hp3)
      | (go_at_call 13; (with_reducible refine HC3.out.mono ?_); rintro e w4 ⟨v4, rfl, hv4, hb4⟩; have hp4 := HD3.out.trans (hb4.mono hq3); have hq4 : xc.heap.size ≤ w4.heap.size := hp4.size; have t40 := (hb4.cell (p := ⟨w.heap.size, 0, none⟩) (by show w.heap.size < _; omega)).trans t30; have t41 := (hb4.cell (p := ⟨w.heap.size, 1, none⟩) (by show w.heap.size < _; omega)).trans t31; have t42 := (hb4.cell (p := ⟨w.heap.size, 2, none⟩) (by show w.heap.size < _; omega)).trans t32; have t43 := (hb4.cell (p := ⟨w.heap.size, 3, none⟩) (by show w.heap.size < _; omega)).trans t33; have HC4 := hid (HRR.out w4 (HBc.out.trans (hp4.mono (by omega))) _ hv4); have HD4 := hid hp4; have HST4 := hid (HST.out.below hb4); clear hv4 hb4 hp4)
      | (go_at_call 19; (with_reducible refine HC4.out.mono ?_); rintro e w5 ⟨v5, rfl, hv5, hb5, -⟩; have hp5 := HD4.out.trans (hb5.mono hq4); have hq5 : xc.heap.size ≤ w5.heap.size := hp5.size; have t50 := (hb5.cell (p := ⟨w.heap.size, 0, none⟩) (by show w.heap.size < _; omega)).trans t40; have t51 := (hb5.cell (p := ⟨w.heap.size, 1, none⟩) (by show w.heap.size < _; omega)).trans t41; have t52 := (hb5.cell (p := ⟨w.heap.size, 2, none⟩) (by show w.heap.size < _; omega)).trans t42; have t53 := (hb5.cell (p := ⟨w.heap.size, 3, none⟩) (by show w.heap.size < _; omega)).trans t43; have HC5 := hid (HR2.out w5 (HBc.out.trans (hp5.mono (by omega))) _ hv5); have HD5 := hid hp5; have HST5 := hid (HST4.out.below hb5); clear hv5 hb5 hp5)
      | (go_at_call 22; (with_reducible refine HC5.out.mono ?_); rintro e w6 ⟨v6, rfl, hst', hb6⟩; obtain ⟨sa', sc', ex', hsc1', hsc2'⟩ := hst'.len; rw [HSl2.out] at ex' hsc1'; subst ex'; have hp6 := HD5.out.trans (hb6.mono hq5); have hq6 : xc.heap.size ≤ w6.heap.size := hp6.size; have t60 := (hb6.cell (p := ⟨w.heap.size, 0, none⟩) (by show w.heap.size < _; omega)).trans t50; have t61 := (hb6.cell (p := ⟨w.heap.size, 1, none⟩) (by show w.heap.size < _; omega)).trans t51; have t62 := (hb6.cell (p := ⟨w.heap.size, 2, none⟩) (by show w.heap.size < _; omega)).trans t52; have t63 := (hb6.cell (p := ⟨w.heap.size, 3, none⟩) (by show w.heap.size < _; omega)).trans t53; have HD6 := hid hp6; have HST6 := hid (HST5.out.below hb6); have HSU6 := hid hst'; clear hst' hb6 hp6)
      | fail)
  have HGd := hid ((HD6.out.block _ (by omega)).trans HGc.out)
  have HBd := hid (HBc.out.trans (HD6.out.mono (by omega)))
  clear HC1 HC2 HC3 HC4 HC5 HD2 HD3 HD4 HD5 HST HST4 HST5 HR1 HR2 HRR
  go_wp2_with fail
  go_loopw [13, 43] (fun wv i wr => ∃ k : Nat, k ≤ ln ∧ i = .int .i64 k ∧ wv = .bool (later S1 S2 k) ∧ Below w6.heap.size w6 wr) (fun _ i _ => ln - (intOf i).toNat)
  case atStart => exact ⟨0, Nat.zero_le _, rfl, rfl, Below.refl _ _⟩
  case round =>
    obtain ⟨k, hk, rfl, rfl, hB⟩ := hrel
    have HB := hid hB
    by_cases hlt : k < ln
    · obtain ⟨s, s', hx, hx', hg, hg'⟩ := HSa.out k hlt
      obtain ⟨b1, rfl, -, -, u1, hr1, -⟩ := (HST6.out.below hB).at k s hx
      obtain ⟨b2, rfl, -, -, u2, hr2, -⟩ := (HSU6.out.below hB).at k s' hx'
      have z1 : wr.cell? ⟨b1, k * 4, none⟩ = some (.int .i64 (stA s : Nat)) := hr1 0 _ rfl
      have z2 : wr.cell? ⟨b2, k * 4, none⟩ = some (.int .i64 (stA s' : Nat)) := hr2 0 _ rfl
      have hki : (k : Int) < (ln : Int) := by omega
      have HLS := hid (later_succ S1 S2 k)
      rw [hg, hg'] at HLS
      clear hr1 hr2 hx hx' hg hg' hB
      generalize stA s = A at *
      generalize stA s' = A' at *
      generalize later S1 S2 k = lt at *
      cases lt with
      | true =>
        have HQ := hid (show later S1 S2 (k + 1) = true by rw [HLS.out]; rfl)
        clear HLS
        go_wp2_with fail
        go_quiet (fail)
        go_wp2_with fail
        go_roundw
        case rel => exact ⟨k + 1, hlt, by go_num, by rw [HQ.out], below_behind HB.out _⟩
        case measure => simp [intOf]; omega
      | false =>
        by_cases hAA : A < A'
        · have d1 : decide ((A' : Int) > (A : Int)) = true := decide_eq_true (by omega)
          have d2 : decide ((A : Int) < (A' : Int)) = true := decide_eq_true (by omega)
          have d4 : decide (A < A') = true := decide_eq_true hAA
          have HQ := hid (show later S1 S2 (k + 1) = true by rw [HLS.out, d4]; rfl)
          clear HLS hAA
          go_wp2_with fail
          go_quiet (fail)
          go_wp2_with fail
          go_roundw
          case rel => exact ⟨k + 1, hlt, by go_num, by rw [HQ.out], below_behind HB.out _⟩
          case measure => simp [intOf]; omega
        · have d1 : decide ((A' : Int) > (A : Int)) = false := decide_eq_false (by omega)
          have d2 : decide ((A : Int) < (A' : Int)) = false := decide_eq_false (by omega)
          have d4 : decide (A < A') = false := decide_eq_false hAA
          have HQ := hid (show later S1 S2 (k + 1) = false by rw [HLS.out, d4]; rfl)
          clear HLS hAA
          go_wp2_with fail
          go_quiet (fail)
          go_wp2_with fail
          go_roundw
          case rel => exact ⟨k + 1, hlt, by go_num, by rw [HQ.out], below_behind HB.out _⟩
          case measure => simp [intOf]; omega
    · have e : k = ln := by omega
      have hki : ¬ (k : Int) < (ln : Int) := by omega
      subst e
      have HX := hid (HD6.out.trans (hB.mono hq6))
      have hsr := hB.size
      have HGr := hid ((hB.block _ (by omega)).trans HGd.out)
      have HBr := hid (HBd.out.trans (hB.mono (by omega)))
      have HXd := hid (show Below xc.heap.size xc wr.drew from HX.out.drew)
      clear hlt hB
      go_wp2_with fail
      have e0 : wr.drew.cell? ⟨w.heap.size, 0, none⟩ = some (.int .i64 at_) := (cell_of_row wr _ _ _ _ _ HGr.out).trans rfl
      have e1 : wr.drew.cell? ⟨w.heap.size, 1, none⟩ = some (.int .i64 row) := (cell_of_row wr _ _ _ _ _ HGr.out).trans rfl
      have e2 : wr.drew.cell? ⟨w.heap.size, 2, none⟩ = some (.slice NA n NC) := (cell_of_row wr _ _ _ _ _ HGr.out).trans rfl
      have e3 : wr.drew.cell? ⟨w.heap.size, 3, none⟩ = some (.bool ok) := (cell_of_row wr _ _ _ _ _ HGr.out).trans rfl
      have hsrd : wr.drew.heap.size = wr.heap.size := rfl
      have HC1 := hid (HPROF.out wr.drew HBr.out.drew)
      have hw : w.heap.size < wr.heap.size := by omega
      go_region_held3 (fun w' => w'.cell? ⟨w.heap.size, 0, none⟩ = some (.int .i64 at_) ∧ w'.cell? ⟨w.heap.size, 1, none⟩ = some (.int .i64 row) ∧ w'.cell? ⟨w.heap.size, 2, none⟩ = some (.slice NA n NC) ∧ w'.cell? ⟨w.heap.size, 3, none⟩ = some (.bool ok))
        (first | (with_reducible refine ⟨?_, ?_, ?_, ?_⟩ <;> assumption) | fail)
        (first
          | (go_at_call 12; (with_reducible refine HC1.out.mono ?_); rintro e w7 ⟨v7, rfl, hv7, hb7⟩; have hp7 : Below xc.heap.size xc w7 := HXd.out.trans (hb7.mono (by omega)); have hs7 : wr.heap.size ≤ w7.heap.size := hb7.size; have t70 := (hb7.cell (p := ⟨w.heap.size, 0, none⟩) (by show w.heap.size < _; omega)).trans e0; have t71 := (hb7.cell (p := ⟨w.heap.size, 1, none⟩) (by show w.heap.size < _; omega)).trans e1; have t72 := (hb7.cell (p := ⟨w.heap.size, 2, none⟩) (by show w.heap.size < _; omega)).trans e2; have t73 := (hb7.cell (p := ⟨w.heap.size, 3, none⟩) (by show w.heap.size < _; omega)).trans e3; have HC7 := hid (HD.out w7 hp7 _ hv7); have HB7 := hid (show Below w.heap.size w w7 from HBc.out.trans (hp7.mono (by omega))); clear hv7 hb7 hp7)
          | (go_at_call 24; (with_reducible refine HC7.out.mono ?_); rintro e w8 ⟨rfl, hb8⟩; have t80 := (hb8.cell (p := ⟨w.heap.size, 0, none⟩) (by show w.heap.size < _; omega)).trans t70; have t81 := (hb8.cell (p := ⟨w.heap.size, 1, none⟩) (by show w.heap.size < _; omega)).trans t71; have t82 := (hb8.cell (p := ⟨w.heap.size, 2, none⟩) (by show w.heap.size < _; omega)).trans t72; have t83 := (hb8.cell (p := ⟨w.heap.size, 3, none⟩) (by show w.heap.size < _; omega)).trans t73; have HB8 := hid (HB7.out.trans (hb8.mono (by omega))); clear hb8)
          | fail)
      go_wp2
      go_ret
      exact ⟨by simp, HB8.out⟩

/-! ### THE ROW's STEP -/
set_option maxRecDepth 100000 in
theorem lifted (os : Os) (started : os.Started) (H : Type) (enc : TypeId × Value → H) :
    ReturnsInHanded {} Try.checked os 6 .any (Rows.planDelaysSpec.pre6 enc Try.prog Try.f6 Rows.planDelaysRow.domain false) (Rows.planDelaysSpec.post enc Try.prog Try.f6 false true false false) := by
  refine returnsInHanded_of_change (C := Try.checked) own started (by kernel_rfl) Try.func6
    (ChangeSpec.witness6 (enc := enc) (C := Try.checked) false ⟨#[], #[.slice none 0 0, .slice none 0 0, .agg #[.int .i64 0, .int .i64 0, .slice none 0 0, .bool false], .int .i64 0], []⟩ 8 (by kernel_rfl) (by kernel_rfl) (by kernel_rfl) (by kernel_rfl)) ?_
  intro W base args ds gs before hval0 hW hcnd _
  have hval : ∀ (j : Nat) t v, Try.f6.params[j]? = some t → args[j]? = some v → Value.okWide Try.prog W .any base t v := hval0
  have hW' := hW
  obtain ⟨p, q, hA0, hV, rfl, hfz, hnd⟩ := hW
  have hA : DataW.TrodAll enc Try.prog W 0 (fun _ => true) true Try.f6.params.toList args.toList ds p := hA0
  rw [Try.params6] at hA hval
  obtain ⟨v0, vs0, d0, ds0, p0, q0, hargs, rfl, rfl, h0, r0⟩ := trodAll_cons hA
  obtain ⟨v1, vs1, d1, ds1, p1, q1, rfl, rfl, rfl, h1, r1⟩ := trodAll_cons r0
  obtain ⟨v2, vs2, d2, ds2, p2, q2, rfl, rfl, rfl, h2, r2⟩ := trodAll_cons r1
  obtain ⟨v3, vs3, d3, ds3, p3, q3, rfl, rfl, rfl, h3, r3⟩ := trodAll_cons r2
  obtain ⟨rfl, rfl, rfl⟩ := trodAll_nil r3
  obtain rfl : args = #[v0, v1, v2, v3] := by cases args; simp_all
  obtain ⟨rfl, rfl⟩ := trodVars_none hV
  have k0 := h0
  have lt0 : ∀ x ∈ p0, x.block < W.heap.size := by obtain ⟨m, hm⟩ := k0; exact DataW.trod_lt m _ _ _ hm
  have k1 := h1
  have lt1 : ∀ x ∈ p1, x.block < W.heap.size := by obtain ⟨m, hm⟩ := k1; exact DataW.trod_lt m _ _ _ hm
  have k2 := h2
  have lt2 : ∀ x ∈ p2, x.block < W.heap.size := by obtain ⟨m, hm⟩ := k2; exact DataW.trod_lt m _ _ _ hm
  have k3 := h3
  have lt3 : ∀ x ∈ p3, x.block < W.heap.size := by obtain ⟨m, hm⟩ := k3; exact DataW.trod_lt m _ _ _ hm
  obtain ⟨a0, len0, cap0, rfl⟩ := okWide_slice Try.underlying22 (hval 0 22 v0 rfl rfl)
  have w0 : IsMatI W a0 len0 cap0 := isMatI_of h0
  obtain ⟨a1, len1, cap1, rfl⟩ := okWide_slice Try.underlying41 (hval 1 41 v1 rfl rfl)
  have w1 : IsAsks W a1 len1 cap1 := isAsks_of h1
  have w2 : IsStart W v2 := isStart_of (hval 2 27 v2 rfl rfl) h2
  obtain ⟨a3, rfl, rfl, rfl, w3⟩ := open_int Try.underlying3 (hval 3 3 v3 rfl rfl) h3
  clear hA0 hval0
  refine (walk a0 len0 cap0 a1 len1 cap1 v2 a3 W w0 w1 w2 w3).mono fun e W' ⟨he, bel⟩ => ?_
  subst he
  exact ⟨_, rfl, _, _, _, [], _, [], hW', trodAll_mk1 (shut_bool Try.underlying4 _), (trodAll_cons_mk (Below.trod laidOut (by kernel_rfl) (of_decide_eq_true (by kernel_rfl)) k0 bel lt0) (trodAll_cons_mk (Below.trod laidOut (by kernel_rfl) (of_decide_eq_true (by kernel_rfl)) k1 bel lt1) (trodAll_cons_mk (Below.trod laidOut (by kernel_rfl) (of_decide_eq_true (by kernel_rfl)) k2 bel lt2) (trodAll_cons_mk (Below.trod laidOut (by kernel_rfl) (of_decide_eq_true (by kernel_rfl)) k3 bel lt3) trodAll_mk0)))), rfl, bel.frame _, fun h => by cases h⟩

theorem over : Rows.planDelaysRow.holds Try.pinned (OpenSpec.ofChange Rows.planDelaysSpec) :=
  OpenClaim.holds_of_wide 6 Try.f6 rfl rfl rfl rfl rfl rfl rfl ⟨rfl, rfl, rfl, rfl, rfl⟩ rfl rfl rfl rfl rfl (by kernel_rfl) Try.func6 (by kernel_rfl)
    (of_decide_eq_true (by kernel_rfl)) (by unfold Func.isWrapper; first | (rw [if_pos (by decide +kernel)]; kernel_rfl) | (rw [if_neg (by decide +kernel)]; exact ⟨rfl, rfl⟩))
    (fun os started H enc _ => lifted os started H enc)

/-- THE STATEMENT -/
theorem planDelays_holds : Rows.PlanDelaysSaid := over
#print axioms planDelays_holds
end Go.Proofs.Ytecojmpiaaehlaa.planDelays
