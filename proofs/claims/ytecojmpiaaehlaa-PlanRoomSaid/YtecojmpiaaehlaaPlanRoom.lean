/-
  P14.1, P14.2: whoever starts has as many nodes as it asked for, each free by then, and no two that run at one time have one cell.
  (The frame behind the walk is the guide's shell, at these parameters.)
-/
import Derived.Test.YtecojmpiaaehlaaRows
import Derived.WalkKit
import Derived.Test.YtecojmpiaaehlaaRfS
import Derived.Test.YtecojmpiaaehlaaPlX
import Derived.Test.YtecojmpiaaehlaaRfF
import Derived.ProofKit
import Derived.Deep.Cut
import Derived.Deep.CutRange
import Derived.Deep.CutBlock
import Derived.Deep.Grids
import Derived.OpenShut
import Derived.ShutString
import Derived.ChangeOld
import Derived.Below
namespace Go.Proofs.Ytecojmpiaaehlaa.planRoom
open Go.ChangeShapes Go.WideShapes Go.ChangeAt Go.RowKit
open Go.ChangeMaps (open_string shut_string)
set_option linter.unusedVariables false

theorem own : ownKnob Try.prog.godebug = none := by kernel_rfl
theorem laidOut : laidOutB Try.prog = true := by kernel_rfl

theorem rda_at {w : World} {a : Option Addr} {n cap : Nat} {L : List (Int × Int)} (h : RdA w (.slice a n cap) L) {j : Nat} {x : Int × Int} (hj : L[j]? = some x) :
    ∃ b off, a = some ⟨b, off, none⟩ ∧ b < w.heap.size ∧ w.rangeAt b (off + j * 2) [.int .i64 x.1, .int .i64 x.2] := by
  obtain ⟨a', cap', e, h1, h2, h3⟩ := h
  simp only [Value.slice.injEq] at e
  obtain ⟨rfl, -, rfl⟩ := e
  exact h3 j x hj
theorem rda_take {w : World} {a : Option Addr} {n cap : Nat} {L : List (Int × Int)} (h : RdA w (.slice a n cap) L) {m : Nat} (hm : m ≤ L.length) : RdA w (.slice a m cap) (L.take m) := by
  obtain ⟨a', cap', e, h1, h2, h3⟩ := h
  simp only [Value.slice.injEq] at e
  obtain ⟨rfl, -, rfl⟩ := e
  have hl : (L.take m).length = m := by rw [List.length_take]; omega
  refine ⟨_, _, by rw [hl], by omega, h2, fun j x hj => ?_⟩
  rw [List.getElem?_take] at hj
  split at hj
  · exact h3 j x hj
  · cases hj
theorem found_len {p : List (List Nat)} {K : Int} {t r : Nat} {ns : List Nat} (h : first p K = some (t, r, ns)) : ns.length ≤ (p.getD r []).length := by
  obtain ⟨hr, k, -, hk, hT, hns⟩ := first_row h
  rw [hns]
  unfold sel selTo
  exact Nat.le_trans (List.length_filter_le _ _) (by simp)
theorem bnd_row {P : List (List Int)} (h : ∀ r ∈ P, r.length ≤ 20) (r : Nat) : ((bndP P).getD r []).length ≤ 20 := by
  rw [List.getD_eq_getElem?_getD]
  unfold bndP
  rw [List.getElem?_map]
  cases hr : P[r]? with
  | none => simp
  | some l => simpa [bndL] using h l (List.mem_of_getElem? hr)

theorem setI_len (l : List Nat) (ns : List Int) (e : Nat) : (setI l ns e).length = l.length := by
  unfold setI
  induction ns generalizing l with
  | nil => rfl
  | cons n ns ih => rw [List.foldl_cons, ih]; split <;> simp
theorem aft_rl (p : List (List Nat)) (a : Int × Int) (r : Nat) : ((aft p a).getD r []).length = (p.getD r []).length := by
  rw [aft_res]
  unfold resI
  split
  · rename_i h
    rw [List.getD_eq_getElem?_getD, List.getD_eq_getElem?_getD, List.getElem?_set]
    by_cases hr : (stR (first p a.1) : Int).toNat = r
    · subst hr
      rw [if_pos rfl, if_pos (by omega)]
      simp only [Option.getD_some, setI_len]
      rw [List.getD_eq_getElem?_getD]
    · rw [if_neg hr, List.getD_eq_getElem?_getD]
  · rfl
theorem planAt_take {p : List (List Nat)} {L : List (Int × Int)} {n j : Nat} (hj : j < n) : planAt p (L.take n) j = planAt p L j := by
  unfold planAt
  rw [List.take_take, Nat.min_eq_left (by omega), List.getD_eq_getElem?_getD, List.getD_eq_getElem?_getD, List.getElem?_take, if_pos hj]
theorem planned_20 {P : List (List Int)} (h : ∀ r ∈ P, r.length ≤ 20) (L : List (Int × Int)) (j : Nat) : (stN (planAt (bndP P) L j)).length ≤ 20 := by
  cases hf : planAt (bndP P) L j with
  | none => simp [stN]
  | some s =>
    obtain ⟨t, r, ns⟩ := s
    have h1 := found_len (show first (aftL (bndP P) (L.take j)) (L.getD j (0, 0)).1 = _ from hf)
    have h2 : ((aftL (bndP P) (L.take j)).getD r []).length ≤ 20 := by
      have hg : ∀ (l : List (Int × Int)) (p : List (List Nat)), (p.getD r []).length ≤ 20 → ((aftL p l).getD r []).length ≤ 20 := by
        intro l
        induction l with
        | nil => intro p hp; exact hp
        | cons b l ih => intro p hp; exact ih (aft p b) (by rw [aft_rl]; exact hp)
      exact hg _ _ (bnd_row h r)
    exact Nat.le_trans h1 h2

set_option maxRecDepth 100000 in
set_option maxHeartbeats 8000000 in
theorem walk (a0 : Option Addr) (len0 cap0 : Nat) (a1 : Option Addr) (len1 cap1 : Nat) (w : World) (w0 : IsMatI w a0 len0 cap0) (w1 : IsAsks w a1 len1 cap1) :
    Calls Try.prog 7 #[.slice a0 len0 cap0, .slice a1 len1 cap1] w fun e w' => e = .returned (.bool true) ∧ Below w.heap.size w w' := by
  obtain ⟨ts, hraw⟩ := w0.raw
  obtain ⟨L, hL, hrda⟩ := w1.rda
  obtain ⟨hlc, hcm⟩ := w1.bounds
  obtain ⟨ht10, ht20⟩ := raw_take hraw
  have HR := hid hraw
  have HA := hid hrda
  have HR0 := hid hraw
  have HT10 := hid ht10
  have HT20 := hid ht20
  have HL20 := hid (show L.length ≤ 20 by omega)
  have HL := hid hL
  have HPROF := hid (fun w' (h : Below w.heap.size w w') => profile_any w' a0 len0 cap0 ts (HR.out.all h))
  clear w0 w1 hraw hrda ht10 ht20 hL HR
  have HFEW := hid (fun w' (h : Below w.heap.size w w') => few_any w' a0 len0 cap0 ts (HR0.out.all h))
  generalize ts.take 10 = P at *
  go_enter Try.func7, Try.ntmps7
  go_wp2_with fail
  refine (awake14_any w).mono ?_
  rintro e wa ⟨rfl, hba⟩
  have HBA := hid hba
  have hsa := hba.size
  clear hba
  go_wp2_with fail
  refine (asks_any wa a1 len1 cap1 L HL.out hlc hcm (HA.out.all HBA.out)).mono ?_
  rintro e wb ⟨u, rfl, hu, hbb⟩
  obtain ⟨ua, uc, rfl, hu1, hu2⟩ := hu.len
  have HU := hid hu
  have HB1 := hid (HBA.out.trans (hbb.mono hsa))
  have hsb : w.heap.size ≤ wb.heap.size := HB1.out.size
  clear hu hbb
  have hL20 := HL20.out
  have HN20 := hid (fun j => planned_20 HT20.out L j)
  obtain ⟨S, hS⟩ : ∃ S, S = planL (bndP P) L := ⟨_, rfl⟩
  have hSl : S.length = L.length := by rw [hS]; exact planL_len _ _
  have HSA := hid (show ∀ j, j < S.length → ∃ (s : Found) (a : Int × Int), S[j]? = some s ∧ L[j]? = some a ∧ planAt (bndP P) L j = s ∧ (stN s).length ≤ 20 ∧ stA s ≤ 1099511627776 from fun j hj => by
    obtain ⟨a, ha⟩ : ∃ a, L[j]? = some a := ⟨_, List.getElem?_eq_getElem (by omega)⟩
    refine ⟨planAt (bndP P) L j, a, by rw [hS]; exact planL_at (by omega), ha, rfl, HN20.out j, ?_⟩
    cases hf : planAt (bndP P) L j with
    | none => exact Nat.zero_le _
    | some s =>
      obtain ⟨t, i, ns⟩ := s
      rw [planAt_of ha] at hf
      obtain ⟨-, k, -, -, hT, -⟩ := first_row hf
      exact (top_aftL (bndP_top P) _).at hT)
  have HPl1 := hid (fun w8 (hb : Below wb.heap.size wb w8) v8 (h : RdP w8 v8 P) => plan_any w8 v8 _ P L h (by have := HT10.out; omega) (fun r hr => by have := HT20.out r hr; omega) (HU.out.all hb) (by have := HL20.out; omega))
  simp only [← hS] at HPl1
  have HSS := hid hS
  clear hS HN20 HU
  have hsl20 : S.length ≤ 20 := by omega
  have hcap : S.length ≤ cap1 := by have := HL.out; omega
  simp only [← hSl] at hu1 HPl1 HA ⊢
  have HSL := hid hSl
  clear hSl
  go_wp2_with fail
  refine (HFEW.out wb HB1.out).mono ?_
  rintro e w2 ⟨v2, rfl, hv2, hb2⟩
  obtain ⟨qa, qc, ex, hq1, hq2⟩ := hv2.len
  subst ex
  have HQ2 := hid hv2
  have HD2 := hid hb2
  have hs2 := hb2.size
  clear hv2 hb2
  go_wp2_with fail
  refine (HPROF.out w2 (HB1.out.trans (HD2.out.mono hsb))).mono ?_
  rintro e w3 ⟨v3, rfl, hv3, hb3⟩
  have HD3 := hid (HD2.out.trans (hb3.mono hs2))
  have hs3 := HD3.out.size
  have HQ3 := hid (HQ2.out.all hb3)
  go_wp2_with fail
  refine (HPl1.out w3 HD3.out _ hv3).mono ?_
  rintro e w4 ⟨v4, rfl, hst, hb4⟩
  obtain ⟨sa, sc, rfl, hsc1, hsc2⟩ := hst.len
  have HD4 := hid (HD3.out.trans (hb4.mono hs3))
  have hs4 := HD4.out.size
  have HST := hid hst
  have HQ4 := hid (HQ3.out.all hb4)
  have HB4 := hid (HB1.out.trans (HD4.out.mono hsb))
  have hs6 : w.heap.size ≤ w4.heap.size := by omega
  clear hv3 hb3 hb4 hst HPl1 HQ2 HQ3 HD2 HD3
  generalize hpl : P.length = pl at *
  have HPL := hid hpl
  clear hpl
  go_wp2_with fail
  go_loopw [32] (fun i wr => ∃ k : Nat, k ≤ S.length ∧ i = .int .i64 k ∧ Below w4.heap.size w4 wr) (fun i _ => S.length - (intOf i).toNat)
  case atStart => exact ⟨0, Nat.zero_le _, rfl, Below.refl _ _⟩
  case round =>
    obtain ⟨y1, hy1⟩ : ∃ y, y = wr := ⟨_, rfl⟩
    subst hy1
    obtain ⟨i, hi, rfl, hB⟩ := hrel
    have HB := hid hB
    have hsy1 := hB.size
    by_cases hlt : i < S.length
    · obtain ⟨s, a, h1, ha, hpl, h20, htop⟩ := HSA.out i hlt
      obtain ⟨b, rfl, hbl, -, u, hr, ho⟩ := (HST.out.below hB).at i s h1
      obtain ⟨xa, xc, rfl, hx1, hx2⟩ := owns_slice ho
      obtain ⟨K, N⟩ := a
      have hUr := HA.out.all (HB4.out.trans (hB.mono hs6))
      obtain ⟨bu, ou, rfl, hbu, hru⟩ := rda_at hUr ha
      have hki : (i : Int) < (S.length : Int) := by omega
      have HLI := hid ha
      have HRU := hid hru
      cases s with
      | none =>
        have HR1 := hid (show y1.rangeAt b (i * 4) [.int .i64 0, .int .i64 0, .slice xa 0 xc, .bool false] from hr)
        clear hB hr ho hUr hru ha h1 hpl
        go_wp2_with (first
          | (refine wpList_load_mid rfl 32 (.tmp 35) rfl b (i * 4) rfl _ _ HR1.out Try.underlying32 rfl info_start ?_)
          | (refine st_fresh rfl 32 (.tmp 10) (.tmp 36) rfl 4 info_start y1 _ #[.int .i64 0, .int .i64 0, .slice xa 0 xc, .bool false] rfl rfl rfl rfl (by simp [Value.oneCell']) ?_; intro y2 g2 b2 s2; have HG2 := hid g2; have HY2 := hid b2; have hsy2 : y1.heap.size + 1 ≤ y2.heap.size := (by omega); have p0 : y2.cell? ⟨y1.heap.size, 0, none⟩ = some (.int .i64 0) := (cell_of_row _ _ _ _ _ _ g2).trans rfl; have p1 : y2.cell? ⟨y1.heap.size, 1, none⟩ = some (.int .i64 0) := (cell_of_row _ _ _ _ _ _ g2).trans rfl; have p2 : y2.cell? ⟨y1.heap.size, 2, none⟩ = some (.slice xa 0 xc) := (cell_of_row _ _ _ _ _ _ g2).trans rfl; have p3 : y2.cell? ⟨y1.heap.size, 3, none⟩ = some (.bool false) := (cell_of_row _ _ _ _ _ _ g2).trans rfl; clear g2 b2 s2)
          | fail)
        go_roundw
        case rel => exact ⟨i + 1, hlt, by go_num, HB.out.trans (HY2.out.mono hsy1)⟩
        case measure => simp [intOf]; omega
      | some x =>
        obtain ⟨t, r, ns⟩ := x
        have HR1 := hid (show y1.rangeAt b (i * 4) [.int .i64 (t : Nat), .int .i64 (r : Nat), .slice xa ns.length xc, .bool true] from hr)
        have HX := hid (show y1.ownsRow w3.heap.size 3 1 (.slice xa ns.length xc) ns.length (ns.map iv) from ho)
        have HPA := hid hpl
        have h20' : ns.length ≤ 20 := h20
        have htop' : t ≤ 1099511627776 := htop
        obtain ⟨hK, hrp, hroom⟩ := room_a (bndP_top P) ha hpl
        have HRM := hid hroom
        rw [bndP_len, HPL.out] at hrp
        have k0 : y1.cell? ⟨bu, ou + i * 2, none⟩ = some (.int .i64 K) := hru 0 _ rfl
        have q1 : decide ((ns.length : Int) ≠ K) = false := by simp [hK]
        have q2 : decide ((r : Int) < 0) = false := decide_eq_false (by omega)
        have q3 : decide ((r : Int) ≥ (pl : Int)) = false := decide_eq_false (by omega)
        have q4 : decide (pl ≤ r) = false := decide_eq_false (by omega)
        clear hB hr ho hUr hru ha h1 hpl hroom h20 htop
        go_wp2_with (first
          | (refine wpList_load_mid rfl 32 (.tmp 35) rfl b (i * 4) rfl _ _ HR1.out Try.underlying32 rfl info_start ?_)
          | (refine st_fresh rfl 32 (.tmp 10) (.tmp 36) rfl 4 info_start y1 _ #[.int .i64 (t : Nat), .int .i64 (r : Nat), .slice xa ns.length xc, .bool true] rfl rfl rfl rfl (by simp [Value.oneCell']) ?_; intro y2 g2 b2 s2; have HG2 := hid g2; have HY2 := hid b2; have hsy2 : y1.heap.size + 1 ≤ y2.heap.size := (by omega); have p0 : y2.cell? ⟨y1.heap.size, 0, none⟩ = some (.int .i64 (t : Nat)) := (cell_of_row _ _ _ _ _ _ g2).trans rfl; have p1 : y2.cell? ⟨y1.heap.size, 1, none⟩ = some (.int .i64 (r : Nat)) := (cell_of_row _ _ _ _ _ _ g2).trans rfl; have p2 : y2.cell? ⟨y1.heap.size, 2, none⟩ = some (.slice xa ns.length xc) := (cell_of_row _ _ _ _ _ _ g2).trans rfl; have p3 : y2.cell? ⟨y1.heap.size, 3, none⟩ = some (.bool true) := (cell_of_row _ _ _ _ _ _ g2).trans rfl; clear g2 b2 s2)
          | fail)
        have k0' : y2.cell? ⟨bu, ou + i * 2, none⟩ = some (.int .i64 K) := (HY2.out.cell (p := ⟨bu, ou + i * 2, none⟩) hbu).trans k0
        go_quiet (fail)
        obtain ⟨y3, hy3⟩ : ∃ y, y = y2.drewN nq := ⟨_, rfl⟩
        rw [← hy3]
        have p0' : y3.cell? ⟨y1.heap.size, 0, none⟩ = some (.int .i64 (t : Nat)) := by rw [hy3]; exact p0
        have p1' : y3.cell? ⟨y1.heap.size, 1, none⟩ = some (.int .i64 (r : Nat)) := by rw [hy3]; exact p1
        have p2' : y3.cell? ⟨y1.heap.size, 2, none⟩ = some (.slice xa ns.length xc) := by rw [hy3]; exact p2
        have HY3 := hid (show Below y1.heap.size y1 y3 by rw [hy3]; exact below_behind HY2.out _)
        have hsy3 : y1.heap.size + 1 ≤ y3.heap.size := by rw [hy3]; exact hsy2
        clear hy3 p0 p1 p2 p3 k0 k0' q1 q2 q3 q4 HY2 hsy2 HG2
        go_wp2_with fail
        go_loopw [64] (fun c wr => ∃ q : Nat, q ≤ ns.length ∧ c = .int .i64 q ∧ Below y3.heap.size y3 wr) (fun c _ => ns.length - (intOf c).toNat)
        case atStart => exact ⟨0, Nat.zero_le _, rfl, Below.refl _ _⟩
        case round =>
          obtain ⟨y4, hy4⟩ : ∃ y, y = wr := ⟨_, rfl⟩
          subst hy4
          obtain ⟨q, hq, rfl, hB4⟩ := hrel
          have HBB := hid hB4
          have hsy4 := hB4.size
          have HY4 := hid (HY3.out.trans (hB4.mono (by omega)))
          by_cases hqn : q < ns.length
          · obtain ⟨n, hn⟩ : ∃ n, ns[q]? = some n := ⟨_, List.getElem?_eq_getElem hqn⟩
            obtain ⟨hnr, hnt, -⟩ := HRM.out n (List.mem_of_getElem? hn)
            obtain ⟨-, gx, ox, rfl, -, hcx⟩ := (RdV.of_own (owns_below HX.out HY4.out)).at q (iv n) (by rw [List.getElem?_map, hn]; rfl)
            obtain ⟨l, hl⟩ : ∃ l, P[r]? = some l := ⟨_, List.getElem?_eq_getElem (by rw [HPL.out]; exact hrp)⟩
            have hbr : (bndP P).getD r [] = bndL l := by rw [List.getD_eq_getElem?_getD]; unfold bndP; rw [List.getElem?_map, hl]; rfl
            rw [hbr] at hnr hnt
            rw [show (bndL l).length = l.length by simp [bndL]] at hnr
            obtain ⟨x, hx⟩ : ∃ x, l[n]? = some x := ⟨_, List.getElem?_eq_getElem hnr⟩
            have hxt : bnd x ≤ t := by
              have : (bndL l).getD n 0 = bnd x := by rw [List.getD_eq_getElem?_getD]; unfold bndL; rw [List.getElem?_map, hx]; rfl
              rw [this] at hnt; exact hnt
            obtain ⟨bq, oq, rfl, ra, rc, hcell, hrc1, hrc2, hrv⟩ := ((HQ4.out.all HB.out).all HY4.out).at r l hl
            obtain ⟨-, gr, or', rfl, -, hcr⟩ := hrv.at n (iw x) (by rw [List.getElem?_map, hx]; rfl)
            have hcn : y4.cell? ⟨gx, ox + q, none⟩ = some (.int .i64 (n : Nat)) := hcx
            have hcq : y4.cell? ⟨gr, or' + n, none⟩ = some (.int .i64 x) := hcr
            have z0 : y4.cell? ⟨y1.heap.size, 0, none⟩ = some (.int .i64 (t : Nat)) := (hB4.cell (p := ⟨y1.heap.size, 0, none⟩) (by show y1.heap.size < _; omega)).trans p0'
            have z1 : y4.cell? ⟨y1.heap.size, 1, none⟩ = some (.int .i64 (r : Nat)) := (hB4.cell (p := ⟨y1.heap.size, 1, none⟩) (by show y1.heap.size < _; omega)).trans p1'
            have hqi : (q : Int) < (ns.length : Int) := by omega
            have d1 : decide ((n : Int) < 0) = false := decide_eq_false (by omega)
            have d2 : decide ((n : Int) ≥ (l.length : Int)) = false := decide_eq_false (by omega)
            have d5 : decide (l.length ≤ n) = false := decide_eq_false (by omega)
            have d3 : decide (max 0 (min x 1099511627776) > (t : Int)) = false := decide_eq_false (by unfold bnd topN at hxt; omega)
            have d4 : decide ((t : Int) < max 0 (min x 1099511627776)) = false := decide_eq_false (by unfold bnd topN at hxt; omega)
            have hri : (r : Int) < (pl : Int) := by omega
            have hni : (n : Int) < (l.length : Int) := by omega
            have HNM := hid (List.mem_of_getElem? hn)
            clear hcx hcr hrv hl hbr hnt hx hxt hn hB4
            go_wp2_with fail
            go_quiet (fail)
            obtain ⟨y5, hy5⟩ : ∃ y, y = y4.drewN nq := ⟨_, rfl⟩
            rw [← hy5]
            have w0 : y5.cell? ⟨y1.heap.size, 0, none⟩ = some (.int .i64 (t : Nat)) := by rw [hy5]; exact z0
            have w1 : y5.cell? ⟨y1.heap.size, 1, none⟩ = some (.int .i64 (r : Nat)) := by rw [hy5]; exact z1
            have HY5 := hid (show Below y3.heap.size y3 y5 by rw [hy5]; exact below_behind HBB.out _)
            have hsy5 : y3.heap.size ≤ y5.heap.size := by rw [hy5]; exact hsy4
            have HY15 := hid (HY3.out.trans (HY5.out.mono (by omega)))
            have hic : (i : Int) ≤ (sc : Int) := by omega
            clear hy5 z0 z1 d1 d2 d3 d4 d5 hri hni hcn hcq hcell hrc1 hrc2
            go_wp2_with fail
            go_loopw [99] (fun c wr => ∃ j : Nat, j ≤ i ∧ c = .int .i64 j ∧ Below y5.heap.size y5 wr) (fun c _ => i - (intOf c).toNat)
            case atStart => exact ⟨0, Nat.zero_le _, rfl, Below.refl _ _⟩
            case round =>
              obtain ⟨y6, hy6⟩ : ∃ y, y = wr := ⟨_, rfl⟩
              subst hy6
              obtain ⟨j, hj, rfl, hB6⟩ := hrel
              have HB6 := hid hB6
              have hsy6 := hB6.size
              have HY16 := hid (HY15.out.trans (hB6.mono (by omega)))
              by_cases hji : j < i
              · obtain ⟨s', a', h1', ha', hpl', h20', htop2⟩ := HSA.out j (by omega)
                obtain ⟨b', eb, hbl', -, u', hr', ho'⟩ := ((HST.out.below HB.out).below HY16.out).at j s' h1'
                cases eb
                obtain ⟨xa', xc', rfl, hx1', hx2'⟩ := owns_slice ho'
                obtain ⟨K', N'⟩ := a'
                obtain ⟨bu', ou', eb, hbu', hru'⟩ := rda_at ((HA.out.all (HB4.out.trans (HB.out.mono hs6))).all HY16.out) ha'
                cases eb
                have HIM := hid (show ∀ m, m ∈ stN s' → s'.isSome = true ∧ (stR s' = r → m = n → addT (stA s' : Nat) (max N' 1) ≤ t) from fun m hm => by
                  cases s' with
                  | none => simp [stN] at hm
                  | some x' =>
                    obtain ⟨t', r', ns'⟩ := x'
                    refine ⟨rfl, fun e1 e2 => ?_⟩
                    have e3 : r' = r := e1
                    subst e3
                    subst e2
                    exact room_b (bndP_top P) HLI.out HPA.out hji ha' hpl' HNM.out hm)
                have HR2 := hid hr'
                have HX2 := hid ho'
                have l1 : y6.cell? ⟨bu, ou + j * 2 + 1, none⟩ = some (.int .i64 N') := hru' 1 _ rfl
                have hjs : (j : Int) < (S.length : Int) := by omega
                have hjii : (j : Int) < (i : Int) := by omega
                have w0' : y6.cell? ⟨y1.heap.size, 0, none⟩ = some (.int .i64 (t : Nat)) := (hB6.cell (p := ⟨y1.heap.size, 0, none⟩) (by show y1.heap.size < _; omega)).trans w0
                have w1' : y6.cell? ⟨y1.heap.size, 1, none⟩ = some (.int .i64 (r : Nat)) := (hB6.cell (p := ⟨y1.heap.size, 1, none⟩) (by show y1.heap.size < _; omega)).trans w1
                clear hr' ho' hru' ha' h1' hpl' hB6
                obtain ⟨ms, hms⟩ : ∃ ms, ms = stN s' := ⟨_, rfl⟩
                rw [← hms] at HIM HR2 HX2 h20' hx1'
                clear hms
                generalize stA s' = A' at *
                generalize stR s' = R' at *
                generalize s'.isSome = ok' at *
                go_wp2_with (first
                  | (refine wpList_load_mid rfl 32 (.tmp 102) rfl b (j * 4) rfl _ _ HR2.out Try.underlying32 rfl info_start ?_)
                  | (refine st_fresh rfl 32 (.tmp 14) (.tmp 103) rfl 4 info_start y6 _ #[.int .i64 (A' : Nat), .int .i64 (R' : Nat), .slice xa' ms.length xc', .bool ok'] rfl rfl rfl rfl (by simp [Value.oneCell']) ?_; intro y7 g7 b7 s7; have HG7 := hid g7; have HY7 := hid b7; have hsy7 : y6.heap.size + 1 ≤ y7.heap.size := (by omega); have v2 : y7.cell? ⟨y6.heap.size, 2, none⟩ = some (.slice xa' ms.length xc') := (cell_of_row _ _ _ _ _ _ g7).trans rfl; have l2 := (b7.cell (p := ⟨bu, ou + j * 2 + 1, none⟩) hbu').trans l1; have t0 := (b7.cell (p := ⟨y1.heap.size, 0, none⟩) (by show y1.heap.size < _; omega)).trans w0'; have t1 := (b7.cell (p := ⟨y1.heap.size, 1, none⟩) (by show y1.heap.size < _; omega)).trans w1'; clear g7 b7 s7)
                  | fail)
                have hbu7 : bu < y7.heap.size := by omega
                have HX7 := hid (owns_below HX2.out HY7.out)
                clear l1 w0' w1'
                go_loopw [107] (fun c wr => ∃ q4 : Nat, q4 ≤ ms.length ∧ c = .int .i64 q4 ∧ Below y7.heap.size y7 wr) (fun c _ => ms.length - (intOf c).toNat)
                case atStart => exact ⟨0, Nat.zero_le _, rfl, Below.refl _ _⟩
                case round =>
                  obtain ⟨q4, hq4, rfl, hB8⟩ := hrel
                  have HB8 := hid hB8
                  by_cases hq4n : q4 < ms.length
                  · obtain ⟨m, hm⟩ : ∃ m, ms[q4]? = some m := ⟨_, List.getElem?_eq_getElem hq4n⟩
                    obtain ⟨-, gm, om, rfl, -, hcm'⟩ := (RdV.of_own (owns_below HX7.out hB8)).at q4 (iv m) (by rw [List.getElem?_map, hm]; rfl)
                    have hcm2 : wr.cell? ⟨gm, om + q4, none⟩ = some (.int .i64 (m : Nat)) := hcm'
                    have g8 := (hB8.block _ (by omega)).trans HG7.out
                    have c0 : wr.cell? ⟨y6.heap.size, 0, none⟩ = some (.int .i64 (A' : Nat)) := (cell_of_row _ _ _ _ _ _ g8).trans rfl
                    have c1 : wr.cell? ⟨y6.heap.size, 1, none⟩ = some (.int .i64 (R' : Nat)) := (cell_of_row _ _ _ _ _ _ g8).trans rfl
                    have c3 : wr.cell? ⟨y6.heap.size, 3, none⟩ = some (.bool ok') := (cell_of_row _ _ _ _ _ _ g8).trans rfl
                    have l3 := (hB8.cell (p := ⟨bu, ou + j * 2 + 1, none⟩) hbu7).trans l2
                    have t0' := (hB8.cell (p := ⟨y1.heap.size, 0, none⟩) (by show y1.heap.size < _; omega)).trans t0
                    have t1' := (hB8.cell (p := ⟨y1.heap.size, 1, none⟩) (by show y1.heap.size < _; omega)).trans t1
                    obtain ⟨hok, himp⟩ := HIM.out m (List.mem_of_getElem? hm)
                    subst hok
                    have hqi4 : (q4 : Int) < (ms.length : Int) := by omega
                    clear hcm' g8 hm hB8
                    by_cases hRr : R' = r
                    · by_cases hmn' : m = n
                      · have hend := himp hRr hmn'
                        have he := end_eq htop2 N'
                        have d1 : decide ((t : Int) < min 1099511627776 ((A' : Int) + max 1 (min N' 1099511627776))) = false := decide_eq_false (by omega)
                        subst hRr
                        subst hmn'
                        clear himp hend he
                        go_wp2_with fail
                        go_quiet (fail)
                        go_wp2_with fail
                        go_roundw
                        case rel => exact ⟨q4 + 1, hq4n, by go_num, below_behind HB8.out _⟩
                        case measure => simp [intOf]; omega
                      · have d1 : decide (m = n) = false := by simpa using hmn'
                        have d2 : ((m : Int) == (n : Int)) = false := by simp; omega
                        have d3 : decide ((m : Int) = (n : Int)) = false := decide_eq_false (by omega)
                        subst hRr
                        clear himp
                        go_wp2_with fail
                        go_quiet (fail)
                        go_wp2_with fail
                        go_roundw
                        case rel => exact ⟨q4 + 1, hq4n, by go_num, below_behind HB8.out _⟩
                        case measure => simp [intOf]; omega
                    · have d1 : decide (R' = r) = false := by simpa using hRr
                      have d2 : ((R' : Int) == (r : Int)) = false := by simp; omega
                      have d3 : decide ((R' : Int) = (r : Int)) = false := decide_eq_false (by omega)
                      clear himp
                      go_wp2_with fail
                      go_quiet (fail)
                      go_wp2_with fail
                      go_roundw
                      case rel => exact ⟨q4 + 1, hq4n, by go_num, below_behind HB8.out _⟩
                      case measure => simp [intOf]; omega
                  · have e : q4 = ms.length := by omega
                    have hqi4 : ¬ (q4 : Int) < (ms.length : Int) := by omega
                    clear hq4n hB8
                    go_wp2
                    go_roundw
                    case rel =>
                      have hrl : ∃ j' : Nat, j' ≤ i ∧ Value.int .i64 ((j : Int) + 1) = .int .i64 j' ∧ Below y5.heap.size y5 wr := ⟨j + 1, hji, by go_num, HB6.out.trans ((HY7.out.trans (HB8.out.mono (by omega))).mono (by omega))⟩
                      first | exact ⟨_, _, _, _, _, hrl, rfl, rfl, rfl, rfl, rfl⟩ | exact hrl
                    case measure => simp [intOf]; omega
              · have e : j = i := by omega
                have hjii : ¬ (j : Int) < (i : Int) := by omega
                clear hji hB6
                go_wp2
                go_roundw
                case rel => exact ⟨q + 1, hqn, by go_num, HY5.out.trans (HB6.out.mono hsy5)⟩
                case measure => simp [intOf]; omega
          · have e : q = ns.length := by omega
            have hqi : ¬ (q : Int) < (ns.length : Int) := by omega
            clear hqn hB4
            go_wp2
            go_roundw
            case rel => exact ⟨i + 1, hlt, by go_num, HB.out.trans (HY4.out.mono hsy1)⟩
            case measure => simp [intOf]; omega
    · have e : i = S.length := by omega
      have hki : ¬ (i : Int) < (S.length : Int) := by omega
      clear hlt hB
      go_wp2
      go_ret
      exact ⟨rfl, HB4.out.trans (HB.out.mono hs6)⟩

/-! ### THE ROW's STEP -/
set_option maxRecDepth 100000 in
theorem lifted (os : Os) (started : os.Started) (H : Type) (enc : TypeId × Value → H) :
    ReturnsInHanded {} Try.checked os 7 .any (Rows.planRoomSpec.pre6 enc Try.prog Try.f7 Rows.planRoomRow.domain false) (Rows.planRoomSpec.post enc Try.prog Try.f7 false true false false) := by
  refine returnsInHanded_of_change (C := Try.checked) own started (by kernel_rfl) Try.func7
    (ChangeSpec.witness6 (enc := enc) (C := Try.checked) false ⟨#[], #[.slice none 0 0, .slice none 0 0], []⟩ 8 (by kernel_rfl) (by kernel_rfl) (by kernel_rfl) (by kernel_rfl)) ?_
  intro W base args ds gs before hval0 hW hcnd _
  have hval : ∀ (j : Nat) t v, Try.f7.params[j]? = some t → args[j]? = some v → Value.okWide Try.prog W .any base t v := hval0
  have hW' := hW
  obtain ⟨p, q, hA0, hV, rfl, hfz, hnd⟩ := hW
  have hA : DataW.TrodAll enc Try.prog W 0 (fun _ => true) true Try.f7.params.toList args.toList ds p := hA0
  rw [Try.params7] at hA hval
  obtain ⟨v0, vs0, d0, ds0, p0, q0, hargs, rfl, rfl, h0, r0⟩ := trodAll_cons hA
  obtain ⟨v1, vs1, d1, ds1, p1, q1, rfl, rfl, rfl, h1, r1⟩ := trodAll_cons r0
  obtain ⟨rfl, rfl, rfl⟩ := trodAll_nil r1
  obtain rfl : args = #[v0, v1] := by cases args; simp_all
  obtain ⟨rfl, rfl⟩ := trodVars_none hV
  have k0 := h0
  have lt0 : ∀ x ∈ p0, x.block < W.heap.size := by obtain ⟨m, hm⟩ := k0; exact DataW.trod_lt m _ _ _ hm
  have k1 := h1
  have lt1 : ∀ x ∈ p1, x.block < W.heap.size := by obtain ⟨m, hm⟩ := k1; exact DataW.trod_lt m _ _ _ hm
  obtain ⟨a0, len0, cap0, rfl⟩ := okWide_slice Try.underlying22 (hval 0 22 v0 rfl rfl)
  have w0 : IsMatI W a0 len0 cap0 := isMatI_of h0
  obtain ⟨a1, len1, cap1, rfl⟩ := okWide_slice Try.underlying41 (hval 1 41 v1 rfl rfl)
  have w1 : IsAsks W a1 len1 cap1 := isAsks_of h1
  clear hA0 hval0
  refine (walk a0 len0 cap0 a1 len1 cap1 W w0 w1).mono fun e W' ⟨he, bel⟩ => ?_
  subst he
  exact ⟨_, rfl, _, _, _, [], _, [], hW', trodAll_mk1 (shut_bool Try.underlying4 _), (trodAll_cons_mk (Below.trod laidOut (by kernel_rfl) (of_decide_eq_true (by kernel_rfl)) k0 bel lt0) (trodAll_cons_mk (Below.trod laidOut (by kernel_rfl) (of_decide_eq_true (by kernel_rfl)) k1 bel lt1) trodAll_mk0)), rfl, bel.frame _, fun h => by cases h⟩

theorem over : Rows.planRoomRow.holds Try.pinned (OpenSpec.ofChange Rows.planRoomSpec) :=
  OpenClaim.holds_of_wide 7 Try.f7 rfl rfl rfl rfl rfl rfl rfl ⟨rfl, rfl, rfl, rfl, rfl⟩ rfl rfl rfl rfl rfl (by kernel_rfl) Try.func7 (by kernel_rfl)
    (of_decide_eq_true (by kernel_rfl)) (by unfold Func.isWrapper; first | (rw [if_pos (by decide +kernel)]; kernel_rfl) | (rw [if_neg (by decide +kernel)]; exact ⟨rfl, rfl⟩))
    (fun os started H enc _ => lifted os started H enc)

/-- THE STATEMENT -/
theorem planRoom_holds : Rows.PlanRoomSaid := over
#print axioms planRoom_holds
end Go.Proofs.Ytecojmpiaaehlaa.planRoom
