/-
  Two texts of one length that are apart in a burst of at most 32 bits have unlike sums: quadrillelaw02.KnotApart returns true for every input, without any condition.
  (The frame behind the walk is the guide's shell.)
-/
import Derived.Test.YtoglhleljknhcabRows
import Derived.WalkKit
import Derived.Test.YtoglhleljknhcabTurn
import Derived.Test.YtoglhleljknhcabClone
import Derived.ProofKit
import Derived.OpenShut
import Derived.ShutString
import Derived.ChangeOld
import Derived.Below
namespace Go.Proofs.Ytoglhleljknhcab.knotApart
open Go.ChangeShapes Go.WideShapes Go.ChangeAt Go.RowKit
open Go.ChangeMaps (open_string shut_string)
set_option linter.unusedVariables false

theorem own : ownKnob Try.prog.godebug = none := by kernel_rfl
theorem laidOut : laidOutB Try.prog = true := by kernel_rfl

theorem odd_or (q : Nat) (hq : q < 4294967296) : ∃ pat : BitVec 32, pat.getLsbD 0 = true ∧ Go.bits .or .u32 (q : Int) 1 = (pat.toNat : Int) := by
  refine ⟨BitVec.ofNat 32 q ||| 1#32, by simp, ?_⟩
  rw [show ((1 : Int)) = ((1 : Nat) : Int) from rfl, u32_or_nat q 1 hq (by omega), BitVec.toNat_or]
  simp [Nat.mod_eq_of_lt hq]

theorem walk (a0 : Option Addr) (len0 cap0 : Nat) (z0 : List Int) (a1 : Int) (a2 : Int) (w : World) (w0 : IsRow .u8 w a0 len0 cap0 z0) (w1 : (Lit.int .u16 a1).wf = true) (w2 : (Lit.int .u32 a2).wf = true) :
    Calls Try.prog 3 #[.slice a0 len0 cap0, .int .u16 a1, .int .u32 a2] w fun e w' => e = .returned (.bool true) ∧ Below w.heap.size w w' := by
  obtain ⟨hb1, hb2, hb3⟩ := w0.bounds
  obtain ⟨q1, rfl⟩ := Int.eq_ofNat_of_zero_le (show 0 ≤ a1 by have := bounds_u16 w1; omega)
  obtain ⟨q2, rfl⟩ := Int.eq_ofNat_of_zero_le (show 0 ≤ a2 by have := bounds_u32 w2; omega)
  have hq1 : q1 < 65536 := by have := bounds_u16 w1; omega
  have hq2 : q2 < 4294967296 := by have := bounds_u32 w2; omega
  obtain ⟨pat, hp0, hpe⟩ := odd_or q2 hq2
  have HP := hid hpe
  have HP0 := hid hp0
  clear hpe hp0 w1 w2
  by_cases hz : len0 = 0
  · subst hz
    clear w0
    go_enter Try.func3, Try.ntmps3
    go_wp2_with (first | (go_at_call 5; refine (awake2_any w).mono ?_; rintro e w1 ⟨rfl, hb1⟩) | (go_at_call 5; refine (awake2_any _).mono ?_; rintro e w2 ⟨rfl, hb2⟩))
    go_ret
    exact ⟨rfl, hb1.trans (hb2.mono hb1.size)⟩
  · have hpos : 0 < len0 := by omega
    obtain ⟨x, rfl⟩ : ∃ x, a0 = some x := by
      cases a0 with
      | none => exact absurd (hb3 rfl).1 hz
      | some x => exact ⟨x, rfl⟩
    clear hb3
    by_cases h6 : len0 ≤ 600
    · obtain ⟨l, hl, hrd⟩ := w0.rd len0 (by omega)
      have HL := hid hl
      clear hl w0
      go_enter Try.func3, Try.ntmps3
      go_wp2_with (go_at_call 5; refine (awake2_any w).mono ?_; rintro e w1 ⟨rfl, hb1⟩)
      refine (turn_at _ l (q1 % (8 * len0)) pat _ _ _ (by first | omega | simp) HP.out (hrd.below hb1) (by rw [HL.out]; omega) (by rw [HL.out]; omega) (by have := Nat.mod_le q1 (8 * len0); omega)).mono ?_
      rintro e w2 ⟨v', l', rfl, hown, hlen, hbits, hb2⟩
      have hne : Crc.sum l' ≠ Crc.sum l := Crc.sum_burst l' l hlen (q1 % (8 * len0)) pat HP0.out (by rw [HL.out]; exact Nat.mod_lt _ (by omega)) hbits
      have hq : ((((Crc.sum l').toNat : Nat) : Int) != (((Crc.sum l).toNat : Nat) : Int)) = true := by
        rw [bne_iff_ne]
        intro e
        exact hne (BitVec.eq_of_toNat_eq (by exact_mod_cast e))
      have HLEN := hid hlen
      have HB := hid hbits
      clear hlen hbits hne
      go_wp2_with fail
      refine (sum_any _ l' _ hown.rd).mono ?_
      rintro e w3 ⟨rfl, rfl⟩
      go_wp2_with fail
      refine (sum_any _ l _ ((hrd.below hb1).below hb2)).mono ?_
      rintro e w3 ⟨rfl, rfl⟩
      go_wp2
      go_ret
      exact ⟨by rw [← hq]; rfl, hb1.trans (hb2.mono hb1.size)⟩
    · obtain ⟨l, hl, hrd⟩ := w0.rd 600 (by omega)
      have HL := hid hl
      clear hl w0
      go_enter Try.func3, Try.ntmps3
      go_wp2_with (go_at_call 5; refine (awake2_any w).mono ?_; rintro e w1 ⟨rfl, hb1⟩)
      refine (turn_at _ l (q1 % (8 * 600)) pat _ _ _ (by first | omega | simp) HP.out (hrd.below hb1) (by rw [HL.out]; omega) (by rw [HL.out]; omega) (by have := Nat.mod_le q1 (8 * 600); omega)).mono ?_
      rintro e w2 ⟨v', l', rfl, hown, hlen, hbits, hb2⟩
      have hne : Crc.sum l' ≠ Crc.sum l := Crc.sum_burst l' l hlen (q1 % (8 * 600)) pat HP0.out (by rw [HL.out]; exact Nat.mod_lt _ (by omega)) hbits
      have hq : ((((Crc.sum l').toNat : Nat) : Int) != (((Crc.sum l).toNat : Nat) : Int)) = true := by
        rw [bne_iff_ne]
        intro e
        exact hne (BitVec.eq_of_toNat_eq (by exact_mod_cast e))
      have HLEN := hid hlen
      have HB := hid hbits
      clear hlen hbits hne
      go_wp2_with fail
      refine (sum_any _ l' _ hown.rd).mono ?_
      rintro e w3 ⟨rfl, rfl⟩
      go_wp2_with fail
      refine (sum_any _ l _ ((hrd.below hb1).below hb2)).mono ?_
      rintro e w3 ⟨rfl, rfl⟩
      go_wp2
      go_ret
      exact ⟨by rw [← hq]; rfl, hb1.trans (hb2.mono hb1.size)⟩

/-! ### THE ROW's STEP: WRITTEN OUT: LEAVE IT -/
set_option maxRecDepth 100000 in
theorem lifted (os : Os) (started : os.Started) (H : Type) (enc : TypeId × Value → H) :
    ReturnsInHanded {} Try.checked os 3 .any (Rows.knotApartSpec.pre6 enc Try.prog Try.f3 Rows.knotApartRow.domain false) (Rows.knotApartSpec.post enc Try.prog Try.f3 false true false false) := by
  refine returnsInHanded_of_change (C := Try.checked) own started (by kernel_rfl) Try.func3
    (ChangeSpec.witness6 (enc := enc) (C := Try.checked) false ⟨#[], #[.slice none 0 0, .int .u16 0, .int .u32 0], []⟩ 8 (by kernel_rfl) (by kernel_rfl) (by kernel_rfl) (by kernel_rfl)) ?_
  intro W base args ds gs before hval0 hW hcnd _
  have hval : ∀ (j : Nat) t v, Try.f3.params[j]? = some t → args[j]? = some v → Value.okWide Try.prog W .any base t v := hval0
  have hW' := hW
  obtain ⟨p, q, hA0, hV, rfl, hfz, hnd⟩ := hW
  have hA : DataW.TrodAll enc Try.prog W 0 (fun _ => true) true Try.f3.params.toList args.toList ds p := hA0
  rw [Try.params3] at hA hval
  obtain ⟨v0, vs0, d0, ds0, p0, q0, hargs, rfl, rfl, h0, r0⟩ := trodAll_cons hA
  obtain ⟨v1, vs1, d1, ds1, p1, q1, rfl, rfl, rfl, h1, r1⟩ := trodAll_cons r0
  obtain ⟨v2, vs2, d2, ds2, p2, q2, rfl, rfl, rfl, h2, r2⟩ := trodAll_cons r1
  obtain ⟨rfl, rfl, rfl⟩ := trodAll_nil r2
  obtain rfl : args = #[v0, v1, v2] := by cases args; simp_all
  obtain ⟨rfl, rfl⟩ := trodVars_none hV
  obtain ⟨a0, len0, cap0, rfl⟩ := okWide_slice Try.underlying22 (hval 0 22 v0 rfl rfl)
  have k0 := h0
  have lt0 : ∀ x ∈ p0, x.block < W.heap.size := by obtain ⟨m, hm⟩ := k0; exact DataW.trod_lt m _ _ _ hm
  obtain ⟨z0, w0⟩ : ∃ zs, IsRow .u8 W a0 len0 cap0 zs := by
    obtain ⟨fuel, hf⟩ := h0
    rcases open_ints Try.underlying22 Try.underlying5 (by kernel_rfl) hf with ⟨hcs, _⟩ | ⟨x, l, c, zs, hcs, _, hl, hm, hz, _, hcell, hwz⟩
    · simp [Value.cells] at hcs
      obtain ⟨rfl, rfl, rfl⟩ := hcs
      exact ⟨[], .inl ⟨rfl, rfl, rfl, rfl⟩⟩
    · simp [Value.cells] at hcs
      obtain ⟨rfl, rfl, rfl⟩ := hcs
      exact ⟨zs, .inr ⟨_, rfl, hl, hm, by simpa using hz, hcell, hwz⟩⟩
  obtain ⟨a1, rfl, rfl, rfl, w1⟩ := open_int Try.underlying23 (hval 1 23 v1 rfl rfl) h1
  obtain ⟨a2, rfl, rfl, rfl, w2⟩ := open_int Try.underlying24 (hval 2 24 v2 rfl rfl) h2
  clear hA0 hval0
  refine (walk a0 len0 cap0 z0 a1 a2 W w0 w1 w2).mono fun e W' ⟨he, bel⟩ => ?_
  subst he
  exact ⟨_, rfl, _, _, _, [], _, [], hW', trodAll_mk1 (shut_bool Try.underlying4 _), (trodAll_cons_mk (Below.trod laidOut (by kernel_rfl) (of_decide_eq_true (by kernel_rfl)) k0 bel lt0) (trodAll_cons_mk (shut_int Try.underlying23 w1) (trodAll_cons_mk (shut_int Try.underlying24 w2) trodAll_mk0))), rfl, bel.frame _, fun h => by cases h⟩

theorem over : Rows.knotApartRow.holds Try.pinned (OpenSpec.ofChange Rows.knotApartSpec) :=
  OpenClaim.holds_of_wide 3 Try.f3 rfl rfl rfl rfl rfl rfl rfl ⟨rfl, rfl, rfl, rfl, rfl⟩ rfl rfl rfl rfl rfl (by kernel_rfl) Try.func3 (by kernel_rfl)
    (of_decide_eq_true (by kernel_rfl)) (by unfold Func.isWrapper; first | (rw [if_pos (by decide +kernel)]; kernel_rfl) | (rw [if_neg (by decide +kernel)]; exact ⟨rfl, rfl⟩))
    (fun os started H enc _ => lifted os started H enc)

/-- ████ THE STATEMENT ████ -/
theorem knotApart_holds : Rows.KnotApartSaid := over
#print axioms knotApart_holds
end Go.Proofs.Ytoglhleljknhcab.knotApart
