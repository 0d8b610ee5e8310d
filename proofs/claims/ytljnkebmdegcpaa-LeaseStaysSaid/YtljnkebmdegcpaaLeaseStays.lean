/-
  A node that is heard of at least each third tick stays Up, and each tick has one Grant of it, of Lease ticks from then on.
  (The frame behind the walk is the guide's shell, at these parameters.)
-/
import Derived.Test.YtljnkebmdegcpaaRows
import Derived.WalkKit
import Derived.Test.YtljnkebmdegcpaaLeaA
import Derived.ProofKit
import Derived.Deep.Cut
import Derived.Deep.CutRange
import Derived.Deep.CutBlock
import Derived.Deep.Grids
import Derived.OpenShut
import Derived.ShutString
import Derived.ChangeOld
import Derived.Below
namespace Go.Proofs.Ytljnkebmdegcpaa.leaseStays
open Go.ChangeShapes Go.WideShapes Go.ChangeAt Go.RowKit
open Go.ChangeMaps (open_string shut_string)
set_option linter.unusedVariables false

theorem own : ownKnob Try.prog.godebug = none := by kernel_rfl
theorem laidOut : laidOutB Try.prog = true := by kernel_rfl

set_option linter.unusedSimpArgs false
theorem bytes_at {w w' : World} {a : Option Addr} {len cap : Nat} {zs : List Int} (h : IsRow .u8 w a len cap zs) (hb : Below w.heap.size w w') {k : Nat} (hk : k < len) : ∃ (b off g : Nat), a = some ⟨b, off, none⟩ ∧ g < 256 ∧ w'.cell? ⟨b, off + k, none⟩ = some (.int .u8 (g : Int)) := by
  rcases h with ⟨rfl, rfl, _, _⟩ | ⟨x, rfl, h1, h2, h3, h4, h5⟩
  · omega
  · have hc := h4 k (by omega)
    obtain ⟨b, off, spot⟩ := x
    have h0 := h4 0 (by omega)
    have hs : spot = none := by simpa [Addr.add] using World.cell?_spot h0
    subst hs
    have hlt := World.block_lt_of_cell? _ _ hc
    rw [Addr.add_lit] at hc hlt
    have hz := bounds_u8 (h5 (zs.getD k 0) (by rw [List.getD_eq_getElem?_getD, List.getElem?_eq_getElem (by omega)]; exact List.getElem_mem _))
    refine ⟨b, off, (zs.getD k 0).toNat, rfl, by omega, ?_⟩
    rw [show ((zs.getD k 0).toNat : Int) = zs.getD k 0 by omega]
    exact (hb.cell (p := ⟨b, off + k, none⟩) hlt).trans hc
theorem st_tick (L N j : Nat) (hj : j < 3) (hN : N ≤ 1000) : ticks (N + j + 1) [(1, L, N, N + j + 8)] = [(1, L, N, N + (j + 1) + 8)] ∧ grants (N + j + 1) [(1, L, N, N + j + 8)] 1 = [(0, N + (j + 1) + 8)] ∧ aways (N + j + 1) [(1, L, N, N + j + 8)] 1 = [] := by
  have hd : dbt (N + j + 1) (1, L, N, N + j + 8) = (1, L, N, N + j + 8) := by unfold dbt; rw [if_neg (by show ¬ (1 = 1 ∧ N + 4 ≤ N + j + 1); omega)]
  have hl : lat (N + j + 1) = N + (j + 1) + 8 := by unfold lat; rw [if_neg (by omega)]; omega
  have ht : tick1 (N + j + 1) (1, L, N, N + j + 8) = (1, L, N, N + (j + 1) + 8) := by
    unfold tick1
    rw [hd, if_pos rfl, hl]
    show (1, L, N, max (N + j + 8) (N + (j + 1) + 8)) = _
    rw [Nat.max_eq_right (by omega)]
  refine ⟨?_, ?_, ?_⟩
  · show [tick1 _ _] = _; rw [ht]
  · show (if grant (N + j + 1) (1, L, N, N + j + 8) = true then [(0, (tick1 (N + j + 1) (1, L, N, N + j + 8)).2.2.2)] else []) = _
    rw [ht, if_pos (by unfold grant; rw [hd]; rfl)]
  · show (if gone (N + j + 1) (1, L, N, N + j + 8) = true then [0] else []) = _
    rw [if_neg (by unfold gone; rw [hd]; simp)]
theorem st_hear (L N m : Nat) : hear [(1, L, N, N + m + 8)] 0 (N + m) L = ([(1, L, N + m, N + m + 8)], false, false) := by
  unfold hear
  rw [if_neg (by simp)]
  show ([(hear1 (N + m) L (1, L, N, N + m + 8)).1], (hear1 (N + m) L (1, L, N, N + m + 8)).2) = _
  unfold hear1
  rw [if_neg (by show ¬ L < L; omega), if_pos ⟨rfl, Nat.one_ne_zero⟩]
set_option maxRecDepth 100000 in
set_option maxHeartbeats 8000000 in
theorem walk (a0 : Option Addr) (len0 cap0 : Nat) (z0 : List Int) (a1 : Int) (w : World) (w0 : IsRow .u8 w a0 len0 cap0 z0) (w1 : (Lit.int .u32 a1).wf = true) :
    Calls Try.prog 4 #[.slice a0 len0 cap0, .int .u32 a1] w fun e w' => e = .returned (.bool true) ∧ Below w.heap.size w w' := by
  obtain ⟨L, hL⟩ : ∃ k : Nat, a1 = (k : Int) := ⟨a1.toNat, by have := bounds_u32 w1; omega⟩
  subst hL
  have hLb : L ≤ 4294967295 := by have := bounds_u32 w1; omega
  clear w1
  obtain ⟨hlc, hcm, -⟩ := w0.bounds
  have HROW := hid w0
  clear w0
  go_enter Try.func4, Try.ntmps4
  go_wp2_with fail
  refine (awake18_any w).mono ?_
  rintro e x1 ⟨rfl, hb1⟩
  have HB1 := hid hb1
  clear hb1
  by_cases hz : L = 0
  · subst hz
    go_wp2_with fail
    refine (awake18_any x1).mono ?_
    rintro e x2 ⟨rfl, hb2⟩
    have HB2 := hid (HB1.out.trans (hb2.mono HB1.out.size))
    clear hb2
    go_wp2_with fail
    go_ret
    exact ⟨rfl, HB2.out⟩
  · have hz0 : decide ((L : Int) = 0) = false := decide_eq_false (by omega)
    go_wp2_with fail
    refine (new_yes x1 1 (by omega) (by omega)).mono ?_
    rintro e x2 ⟨rfl, hk2, hb2⟩
    obtain ⟨g, hg⟩ : ∃ g, g = x1.heap.size := ⟨_, rfl⟩
    obtain ⟨b, hb⟩ : ∃ b, b = x1.heap.size + 1 := ⟨_, rfl⟩
    rw [← hg] at hb
    simp only [← hg] at hk2 ⊢
    simp only [← hb] at hk2 ⊢
    have HG := hid (show w.heap.size ≤ g by rw [hg]; exact HB1.out.size)
    have HK2 := hid hk2
    have HB2 := hid (HB1.out.trans (hb2.mono HB1.out.size))
    clear hk2 hb2 hg hb
    go_wp2_with fail
    refine (hear_lit x2 b g (zs 1) [(1, L, 1, 1 + 8)] 0 1 L true false HK2.out (by omega) hLb (by unfold hear; rw [if_neg (by simp [zs_len])]; show ([(hear1 1 L (0, 0, 0, 0)).1], (hear1 1 L (0, 0, 0, 0)).2) = _; unfold hear1; rw [if_pos (by show 0 < L; omega)]; rfl)).mono ?_
    rintro e x3 ⟨rfl, hk3, hb3⟩
    have HK3 := hid hk3
    have HB3 := hid (kbel (b := 0) (l := []) HB2.out hb3 HG.out HB2.out.size)
    clear hk3 hb3
    go_wp2_with fail
    go_loopw [7, 28] (fun vn i wr => ∃ k N : Nat, k ≤ len0 ∧ k ≤ 60 ∧ i = .int .i64 k ∧ vn = .int .u32 (N : Int) ∧ 1 ≤ N ∧ N ≤ 1 + 3 * k ∧ BkAt wr b g [(1, L, N, N + 8)] ∧ Below w.heap.size w wr) (fun _ i _ => len0 - (intOf i).toNat)
    case atStart => exact ⟨0, 1, Nat.zero_le _, Nat.zero_le _, rfl, rfl, Nat.le_refl _, Nat.le_refl _, HK3.out, HB3.out⟩
    case round =>
      obtain ⟨k, N, hk, hk60, rfl, rfl, hN1, hN2, hbk, hbw⟩ := hrel
      have HBK := hid hbk
      have HBW := hid hbw
      clear hbk hbw
      by_cases hlt : k < len0
      · have hki : (k : Int) < (len0 : Int) := by omega
        by_cases h60 : k < 60
        · have hk6 : decide ((k : Int) ≥ 60) = false := decide_eq_false (by omega)
          obtain ⟨bb, off, G, rfl, hG, hcell⟩ := bytes_at HROW.out HBW.out hlt
          have hr3 : G % 3 < 3 := Nat.mod_lt _ (by omega)
          have hm1 : (G : Int) % 3 = ((G % 3 : Nat) : Int) := by omega
          generalize G % 3 = r at *
          obtain ⟨m, hm⟩ : ∃ m, m = 1 + r := ⟨_, rfl⟩
          have htm : Int.tmod (G : Int) 3 = (r : Int) := by rw [Int.tmod_eq_emod_of_nonneg (by omega)]; exact hm1
          have hm2 : (1 : Int) + (r : Int) = (m : Int) := by omega
          have hm3 : (m : Int) % 256 = (m : Int) := by omega
          have hm4 : IntKind.u8.wrap (m : Int) = (m : Int) := by rw [IntKind.wrap_u8]; omega
          have hmb : m ≤ 3 := by omega
          clear hm
          have HHE := hid (st_hear L N m)
          have HN2 := hid hN2
          have hNb : N ≤ 200 := by omega
          clear hN2
          obtain ⟨wq, hwq⟩ : ∃ wq, wq = wr := ⟨_, rfl⟩
          subst hwq
          go_wp2_with fail
          have HM4 := hid hm4
          clear hm1 htm hm2 hm3 hm4
          go_loopw [7, 38] (fun vn i wr => ∃ j : Nat, j ≤ m ∧ i = .int .u8 (j : Int) ∧ vn = .int .u32 ((N + j : Nat) : Int) ∧ BkAt wr b g [(1, L, N, N + j + 8)] ∧ Below w.heap.size w wr) (fun _ i _ => m - (intOf i).toNat)
          case atStart => exact ⟨0, Nat.zero_le _, rfl, rfl, HBK.out, HBW.out⟩
          case round =>
            obtain ⟨j, hj, rfl, rfl, hbj, hbw⟩ := hrel
            have HBJ := hid hbj
            have HBV := hid hbw
            clear hbj hbw
            by_cases hjm : j < m
            · have hji : (j : Int) < (m : Int) := by omega
              obtain ⟨t1, t2, t3⟩ := st_tick L N j (by omega) (by omega)
              have HTK := hid (tick_lit wr b g _ _ (N + j + 1) _ _ HBJ.out (by omega) t1 t2 t3)
              clear t1 t2 t3
              obtain ⟨z, hz⟩ : ∃ z, z = N + j := ⟨_, rfl⟩
              rw [← hz] at HTK ⊢
              have HZ := hid hz
              have hzb : z ≤ 300 := by omega
              have hzi : (z : Int) + 1 = ((z + 1 : Nat) : Int) := by omega
              have HU := hid (show N + (j + 1) + 8 = z + 1 + 8 by omega)
              rw [HU.out] at HTK
              clear hz
              generalize hy : z + 1 = y at *
              have hyb : y ≤ 301 := by omega
              have HY := hid hy
              clear hy
              have hw32 : IntKind.u32.wrap (y : Int) = (y : Int) := by rw [IntKind.wrap_u32]; omega
              have hw33 : (y : Int) % 4294967296 = (y : Int) := by omega
              go_wp2_with fail
              refine HTK.out.mono ?_
              rintro e w5 ⟨vg, va, rfl, h5⟩
              rcases owns_shape h5.hg with ⟨_, h0⟩ | ⟨q, cq, eq, hq1, hq2, hq3, hq4⟩
              · exact absurd h0 (by simp)
              subst eq
              obtain ⟨aa, ca, rfl, -, -⟩ := owns_slice h5.ha
              have c1 : w5.cell? ⟨q, 1, none⟩ = some (.int .u32 ((y + 8 : Nat) : Int)) := (h5.hg.cellAt 1 (by simp [gcels, gcel])).trans rfl
              have HB5 := hid h5.bk
              have HW5 := hid (kbel (b := 0) (l := []) HBV.out h5.k HG.out HBV.out.size)
              clear h5
              have e8 : (y : Int) + 8 = ((y + 8 : Nat) : Int) := by omega
              generalize hy8 : y + 8 = y8 at *
              have hy8b : y8 ≤ 310 := by omega
              have HY8 := hid hy8
              clear hy8
              have hw34 : IntKind.u32.wrap (y8 : Int) = (y8 : Int) := by rw [IntKind.wrap_u32]; omega
              go_wp2_with fail
              exact ⟨⟨j + 1, hjm, rfl, by rw [show N + (j + 1) = y by have := HY.out; have := HZ.out; omega], by rw [HU.out]; exact HB5.out, HW5.out⟩, by simp [intOf]; omega⟩
            · have e : j = m := by omega
              subst e
              have hji : ¬ (j : Int) < (j : Int) := by omega
              have HHR := hid (hear_lit wr b g _ _ 0 (N + j) L false false HBJ.out (by omega) hLb HHE.out)
              obtain ⟨z, hz⟩ : ∃ z, z = N + j := ⟨_, rfl⟩
              rw [← hz] at HHR ⊢
              have HZ := hid hz
              clear hz
              go_wp2_with fail
              refine HHR.out.mono ?_
              rintro e w5 ⟨rfl, hb5, hk5⟩
              have HB5 := hid hb5
              have HW5 := hid (kbel (b := 0) (l := []) HBV.out hk5 HG.out HBV.out.size)
              clear hb5 hk5
              go_wp2_with fail
              exact ⟨⟨k + 1, z, hlt, by omega, rfl, rfl, by have := HZ.out; omega, by have := HZ.out; have := HN2.out; omega, HB5.out, HW5.out⟩, by simp [intOf]; omega⟩
        · have hk6 : decide ((k : Int) ≥ 60) = true := decide_eq_true (by omega)
          obtain ⟨bb, off, G, rfl, hG, hcell⟩ := bytes_at HROW.out HBW.out hlt
          go_wp2_with fail
          refine (state_any wr b g _ 0 HBK.out).mono ?_
          rintro e w9 ⟨rfl, rfl⟩
          go_wp2_with fail
          go_ret
          exact ⟨rfl, HBW.out⟩
      · have hki : ¬ (k : Int) < (len0 : Int) := by omega
        go_wp2_with fail
        refine (state_any wr b g _ 0 HBK.out).mono ?_
        rintro e w9 ⟨rfl, rfl⟩
        go_wp2_with fail
        go_ret
        exact ⟨rfl, HBW.out⟩

/-! ### THE ROW's STEP -/
set_option maxRecDepth 100000 in
theorem lifted (os : Os) (started : os.Started) (H : Type) (enc : TypeId × Value → H) :
    ReturnsInHanded {} Try.checked os 4 .any (Rows.leaseStaysSpec.pre6 enc Try.prog Try.f4 Rows.leaseStaysRow.domain false) (Rows.leaseStaysSpec.post enc Try.prog Try.f4 false true false false) := by
  refine returnsInHanded_of_change (C := Try.checked) own started (by kernel_rfl) Try.func4
    (ChangeSpec.witness6 (enc := enc) (C := Try.checked) false ⟨#[], #[.slice none 0 0, .int .u32 0], []⟩ 8 (by kernel_rfl) (by kernel_rfl) (by kernel_rfl) (by kernel_rfl)) ?_
  intro W base args ds gs before hval0 hW hcnd _
  have hval : ∀ (j : Nat) t v, Try.f4.params[j]? = some t → args[j]? = some v → Value.okWide Try.prog W .any base t v := hval0
  have hW' := hW
  obtain ⟨p, q, hA0, hV, rfl, hfz, hnd⟩ := hW
  have hA : DataW.TrodAll enc Try.prog W 0 (fun _ => true) true Try.f4.params.toList args.toList ds p := hA0
  rw [Try.params4] at hA hval
  obtain ⟨v0, vs0, d0, ds0, p0, q0, hargs, rfl, rfl, h0, r0⟩ := trodAll_cons hA
  obtain ⟨v1, vs1, d1, ds1, p1, q1, rfl, rfl, rfl, h1, r1⟩ := trodAll_cons r0
  obtain ⟨rfl, rfl, rfl⟩ := trodAll_nil r1
  obtain rfl : args = #[v0, v1] := by cases args; simp_all
  obtain ⟨rfl, rfl⟩ := trodVars_none hV
  have k0 := h0
  have lt0 : ∀ x ∈ p0, x.block < W.heap.size := by obtain ⟨m, hm⟩ := k0; exact DataW.trod_lt m _ _ _ hm
  have k1 := h1
  have lt1 : ∀ x ∈ p1, x.block < W.heap.size := by obtain ⟨m, hm⟩ := k1; exact DataW.trod_lt m _ _ _ hm
  obtain ⟨a0, len0, cap0, rfl⟩ := okWide_slice Try.underlying53 (hval 0 53 v0 rfl rfl)
  obtain ⟨z0, w0⟩ : ∃ zs, IsRow .u8 W a0 len0 cap0 zs := by
    obtain ⟨fuel, hf⟩ := h0
    rcases open_ints Try.underlying53 Try.underlying5 (by kernel_rfl) hf with ⟨hcs, _⟩ | ⟨x, l, c, zs, hcs, _, hl, hm, hz, _, hcell, hwz⟩
    · simp [Value.cells] at hcs
      obtain ⟨rfl, rfl, rfl⟩ := hcs
      exact ⟨[], .inl ⟨rfl, rfl, rfl, rfl⟩⟩
    · simp [Value.cells] at hcs
      obtain ⟨rfl, rfl, rfl⟩ := hcs
      exact ⟨zs, .inr ⟨_, rfl, hl, hm, by simpa using hz, hcell, hwz⟩⟩
  obtain ⟨a1, rfl, rfl, rfl, w1⟩ := open_int Try.underlying31 (hval 1 31 v1 rfl rfl) h1
  clear hA0 hval0
  refine (walk a0 len0 cap0 z0 a1 W w0 w1).mono fun e W' ⟨he, bel⟩ => ?_
  subst he
  exact ⟨_, rfl, _, _, _, [], _, [], hW', trodAll_mk1 (shut_bool Try.underlying4 _), (trodAll_cons_mk (Below.trod laidOut (by kernel_rfl) (of_decide_eq_true (by kernel_rfl)) k0 bel lt0) (trodAll_cons_mk (Below.trod laidOut (by kernel_rfl) (of_decide_eq_true (by kernel_rfl)) k1 bel lt1) trodAll_mk0)), rfl, bel.frame _, fun h => by cases h⟩

theorem over : Rows.leaseStaysRow.holds Try.pinned (OpenSpec.ofChange Rows.leaseStaysSpec) :=
  OpenClaim.holds_of_wide 4 Try.f4 rfl rfl rfl rfl rfl rfl rfl ⟨rfl, rfl, rfl, rfl, rfl⟩ rfl rfl rfl rfl rfl (by kernel_rfl) Try.func4 (by kernel_rfl)
    (of_decide_eq_true (by kernel_rfl)) (by unfold Func.isWrapper; first | (rw [if_pos (by decide +kernel)]; kernel_rfl) | (rw [if_neg (by decide +kernel)]; exact ⟨rfl, rfl⟩))
    (fun os started H enc _ => lifted os started H enc)

/-- THE STATEMENT -/
theorem leaseStays_holds : Rows.LeaseStaysSaid := over
#print axioms leaseStays_holds
end Go.Proofs.Ytljnkebmdegcpaa.leaseStays
