/-
  Every sector of any bytes is a block, or isn't, or is empty, just as the document reads it. No conditions.
  (The frame behind the walk is the guide's shell, at these parameters.)
-/
import Derived.Test.YtbagpckiegpalaaRows
import Derived.WalkKit
import Derived.Test.YtbagpckiegpalaaRfFc
import Derived.ProofKit
import Derived.Deep.Cut
import Derived.Deep.CutRange
import Derived.Deep.CutBlock
import Derived.Deep.Grids
import Derived.OpenShut
import Derived.ShutString
import Derived.ChangeOld
import Derived.Below
namespace Go.Proofs.Ytbagpckiegpalaa.blockReads
open Go.ChangeShapes Go.WideShapes Go.ChangeAt Go.RowKit
open Go.ChangeMaps (open_string shut_string)
set_option linter.unusedVariables false

theorem own : ownKnob Try.prog.godebug = none := by kernel_rfl
theorem laidOut : laidOutB Try.prog = true := by kernel_rfl

theorem getb_pad (l : List UInt8) (hl : l.length ≤ 128) : ∃ s1 : Sl, (Sl.new 1).write 0 l = (s1, 0) ∧ s1.getb 0 = said (pad l) := by
  obtain ⟨e1, c1⟩ := calm_write (calm_new 1) 0 l (by omega) hl
  refine ⟨_, e1, ?_⟩
  have hs := put_sect (Sl.new 1) 0 0 (pad l) (by simp [Sl.new]) (by simp [Sl.new]) (pad_length l hl)
  rw [if_pos rfl] at hs
  unfold Sl.getb
  have hr := calm_read c1 0 (by omega)
  rw [show (((0 : Nat) : Int)) = 0 from rfl] at hr
  rw [hr, if_pos rfl]
  show said (sect ((Sl.new 1).put 0 (pad l)).step.now 0) = _
  exact congrArg said hs

set_option maxRecDepth 100000 in
set_option maxHeartbeats 8000000 in
theorem walk (a0 : Option Addr) (len0 cap0 : Nat) (z0 : List Int) (w : World) (w0 : IsRow .u8 w a0 len0 cap0 z0) :
    Calls Try.prog 4 #[.slice a0 len0 cap0] w fun e w' => e = .returned (.bool true) ∧ Below w.heap.size w w' := by
  obtain ⟨hbl1, hbl2, hbl3⟩ := w0.bounds
  obtain ⟨K, hK⟩ : ∃ K, K = min len0 128 := ⟨_, rfl⟩
  have hKL : K ≤ len0 := by omega
  have hK4 : K ≤ 128 := by omega
  have hKC : (K : Int) ≤ (cap0 : Int) := by omega
  have HMIN := hid (show (if 128 < (len0 : Int) then (128 : Int) else (len0 : Int)) = (K : Int) by split <;> omega)
  obtain ⟨l, hll, hlr⟩ := w0.rd K hKL
  have HLL := hid hll
  have HLR := hid hlr
  obtain ⟨s1, hs1, hg1⟩ := getb_pad l (by omega)
  have HS1 := hid hs1
  obtain ⟨B, hB⟩ : ∃ B, B = (said (pad l)).2 := ⟨_, rfl⟩
  obtain ⟨er, her⟩ : ∃ e, e = (said (pad l)).1 := ⟨_, rfl⟩
  have HGB := hid (show s1.getb 0 = (er, B) by rw [hg1, hB, her])
  have HSD := hid (show said (pad l) = (er, B) by rw [hB, her])
  obtain ⟨kn, hkn⟩ : ∃ k, k = B.kind.toNat := ⟨_, rfl⟩
  obtain ⟨en, hen⟩ : ∃ k, k = B.epoch.toNat := ⟨_, rfl⟩
  obtain ⟨xn, hxn⟩ : ∃ k, k = B.a.toNat := ⟨_, rfl⟩
  obtain ⟨yn, hyn⟩ : ∃ k, k = B.b.toNat := ⟨_, rfl⟩
  obtain ⟨n, hn⟩ : ∃ n, n = B.data.length := ⟨_, rfl⟩
  have HKN := hid hkn
  have HEN := hid hen
  have HXN := hid hxn
  have HYN := hid hyn
  have HN := hid hn
  clear hll hlr w0 hK hs1 hg1 hB her hkn hen hxn hyn hn
  go_enter Try.func4, Try.ntmps4
  go_wp2_with fail
  refine (awake6_any _).mono ?_
  rintro e wa ⟨rfl, hba⟩
  have HBA := hid hba
  have hsa := hba.size
  clear hba
  go_upto_region 4 with fail
  simp only [HMIN.out, Int.toNat_natCast]
  go_wp2_with fail
  refine (new_yes 1 wa (by omega) (by omega)).mono ?_
  rintro e w1 ⟨b, bn, bd, rfl, h1, hb1⟩
  have H1 := hid (show SlabAt w1 wa.heap.size b bn bd (.slice none 0 0) (Sl.new 1) from h1)
  have HB1 := hid (HBA.out.trans (hb1.mono hsa))
  have HLR1 := hid (HLR.out.below HB1.out)
  have HWR := hid (show Calls Try.prog 23 #[.pointer (some ⟨b, 0, none⟩), .int .i64 0, .slice a0 K cap0] w1 (fun e w' => ∃ v', e = .returned (.int .i64 0) ∧ SlabAt w' wa.heap.size b bn bd v' s1 ∧ Keeps (SlabS b bn bd (.slice none 0 0)) w1 w') from by
    have h := write_all wa.heap.size b bn bd (.slice none 0 0) (Sl.new 1) 0 (.slice a0 K cap0) l w1 H1.out (by decide) (by decide) HLR1.out
    rw [HS1.out] at h
    exact h)
  clear h1 hb1
  go_upto_region 6 with (first
    | (go_at_call 23; refine (HWR.out).mono ?_; rintro e w2 ⟨v2, rfl, h2, hk2⟩)
    | fail)
  have HB2 := hid (HB1.out.trans ((H1.out.keep hk2).mono hsa))
  have HGT := hid (show Calls Try.prog 14 #[.pointer (some ⟨b, 0, none⟩), .int .i64 0] w2 (fun e w' => ∃ ua uc, e = .returned (.tuple #[.agg #[.int .u8 (kn : Int), .int .u32 (en : Int), .int .u32 (xn : Int), .int .u32 (yn : Int), .slice ua n uc], .int .i64 er]) ∧ Rd w' (.slice ua n uc) B.data ∧ Below w2.heap.size w2 w') from by
    have h := get_any wa.heap.size b bn bd v2 s1 0 w2 h2
    rw [HGB.out] at h
    refine h.mono ?_
    rintro e w' ⟨dv, rfl, ho, hb⟩
    obtain ⟨ua, uc, rfl⟩ := rd_slice ho.rd
    rw [HKN.out, HEN.out, HXN.out, HYN.out, HN.out]
    exact ⟨ua, uc, rfl, ho.rd, hb⟩)
  clear h2 hk2
  go_upto_region 7 with (first
    | (go_at_call 14; refine (HGT.out).mono ?_; rintro e w3 ⟨ua, uc, rfl, hr3, hb3⟩)
    | fail)
  obtain ⟨w4, hw4⟩ : ∃ z, z = w3.alloc (.cells #[.int .u8 (kn : Int), .int .u32 (en : Int), .int .u32 (xn : Int), .int .u32 (yn : Int), .slice ua n uc] 40) := ⟨_, rfl⟩
  rw [← hw4]
  have hb4 : Below w3.heap.size w3 w4 := by rw [hw4]; exact (Below.refl _ _).alloc (Nat.le_refl _) _
  have hg4 : w4.heap[w3.heap.size]? = some (.cells #[.int .u8 (kn : Int), .int .u32 (en : Int), .int .u32 (xn : Int), .int .u32 (yn : Int), .slice ua n uc] 40 (0, 0)) := by rw [hw4]; exact heap_alloc_new _ _
  obtain ⟨g3, hg3⟩ : ∃ g, g = w3.heap.size := ⟨_, rfl⟩
  rw [← hg3] at hg4 ⊢
  have HG4 := hid hg4
  have HR4 := hid (hr3.below hb4)
  have HB4 := hid ((HB2.out.trans (hb3.mono HB2.out.size)).trans (hb4.mono (HB2.out.trans (hb3.mono HB2.out.size)).size))
  have HL4 := hid ((HLR.out.below HB4.out).alloc (.cells #[] 5))
  have HE4 := hid (Own.empty w4 w4.heap.size (Nat.le_refl _))
  have hs4 := HB4.out.size
  have hsub : IntKind.i64.wrap ((128 : Int) - (K : Int)) = (128 : Int) - (K : Int) := IntWalk.i64_in _ (by omega)
  have HZ := hid (show (128 : Int) - (K : Int) = ((128 - K : Nat) : Int) by omega)
  have HPD := hid (show pad l = l ++ zeros (128 - K) by unfold pad zeros; rw [HLL.out])
  clear hw4 hb4 hg4 hg3 hr3 hb3
  go_upto_region 8 with (first
    | (at_builtin; (refine appk rfl (.tmp 29) (.tmp 30) rfl w4.heap.size (.slice (some ⟨w4.heap.size, 0, none⟩) 0 0) _ [] l l K rfl rfl HE4.out HL4.out (by have := HLL.out; simp; omega) rfl (by have := HLL.out; simp; omega) (by simp) ?_); intro ad5 cp5 w5 ho5 hg5; have HO5 := hid ho5; have HB5 := hid (((Below.refl w4.heap.size w4).alloc (Nat.le_refl _) (.cells #[] 5)).grown hg5 (by simp) (fun k hk => by have := (HE4.out.lt k hk).1; omega)); clear ho5 hg5)
    | (at_builtin; (refine appzw (by rfl) (.tmp 31) (.tmp 34) rfl w4.heap.size (.slice ad5 K cp5) _ l (pad l) (128 - K) 128 rfl rfl HZ.out HO5.out (by have := HLL.out; omega) HPD.out (by have := HLL.out; omega) HB5.out.size ?_); intro ad6 cp6 w6 ho6 hg6; have HO6 := hid ho6; have HB6 := hid (HO5.out.grown HB5.out hg6 (Nat.le_refl _) HB5.out.size); clear ho6 hg6)
    | (go_at_call 30; refine (refread_any w6 _ (pad l) HO6.out.rd (pad_length l (by have := HLL.out; omega))).mono ?_; rintro e w7 ⟨dv, rfl, ho7, hb7⟩; rw [HSD.out] at ho7 ⊢; obtain ⟨va, vc, rfl⟩ := rd_slice ho7.rd; unfold Blk.val; dsimp only at ho7 ⊢; rw [← HKN.out, ← HEN.out, ← HXN.out, ← HYN.out, ← HN.out]; rw [← HN.out] at ho7; have HR7 := hid ho7.rd; have HB7 := hid hb7; clear ho7 hb7)
    | fail)
  obtain ⟨w8, hw8⟩ : ∃ z, z = w7.alloc (.cells #[.int .u8 (kn : Int), .int .u32 (en : Int), .int .u32 (xn : Int), .int .u32 (yn : Int), .slice va n vc] 34) := ⟨_, rfl⟩
  rw [← hw8]
  have hb8 : Below w7.heap.size w7 w8 := by rw [hw8]; exact (Below.refl _ _).alloc (Nat.le_refl _) _
  have hg8 : w8.heap[w7.heap.size]? = some (.cells #[.int .u8 (kn : Int), .int .u32 (en : Int), .int .u32 (xn : Int), .int .u32 (yn : Int), .slice va n vc] 34 (0, 0)) := by rw [hw8]; exact heap_alloc_new _ _
  have hb47 := HB6.out.trans (HB7.out.mono HB6.out.size)
  have hb48 := hb47.trans (hb8.mono hb47.size)
  have HB8 := hid (HB4.out.trans (hb48.mono hs4))
  have HU8 := hid (HR4.out.below hb48)
  have HV8 := hid (HR7.out.below hb8)
  have hgb8 := (hb48.block g3 (Array.getElem?_eq_some_iff.1 HG4.out).1).trans HG4.out
  have HSM := hid (show Calls Try.prog 16 #[.agg #[.int .u8 (kn : Int), .int .u32 (en : Int), .int .u32 (xn : Int), .int .u32 (yn : Int), .slice ua n uc], .agg #[.int .u8 (kn : Int), .int .u32 (en : Int), .int .u32 (xn : Int), .int .u32 (yn : Int), .slice va n vc]] w8 (fun e w' => e = .returned (.bool true) ∧ Below w8.heap.size w8 w') from by
    rw [HKN.out, HEN.out, HXN.out, HYN.out]
    exact same6_eq B ua va n uc vc w8 HU8.out HV8.out)
  obtain ⟨⟨m0, m1, m2, m3, m4⟩, -, -, -, -, -⟩ := zero5 hgb8
  obtain ⟨⟨p0, p1, p2, p3, p4⟩, -, -, -, -, -⟩ := zero5 hg8
  clear hw8 hb8 hg8 hgb8 hb47 hb48
  go_wp2_with (first
    | (go_at_call 16; refine (HSM.out).mono ?_; rintro e w9 ⟨rfl, hb9⟩)
    | fail)
  go_ret
  exact ⟨by simp, HB8.out.trans (hb9.mono HB8.out.size)⟩

/-! ### THE ROW's STEP -/
set_option maxRecDepth 100000 in
theorem lifted (os : Os) (started : os.Started) (H : Type) (enc : TypeId × Value → H) :
    ReturnsInHanded {} Try.checked os 4 .any (Rows.blockReadsSpec.pre6 enc Try.prog Try.f4 Rows.blockReadsRow.domain false) (Rows.blockReadsSpec.post enc Try.prog Try.f4 false true false false) := by
  refine returnsInHanded_of_change (C := Try.checked) own started (by kernel_rfl) Try.func4
    (ChangeSpec.witness6 (enc := enc) (C := Try.checked) false ⟨#[], #[.slice none 0 0], []⟩ 8 (by kernel_rfl) (by kernel_rfl) (by kernel_rfl) (by kernel_rfl)) ?_
  intro W base args ds gs before hval0 hW hcnd _
  have hval : ∀ (j : Nat) t v, Try.f4.params[j]? = some t → args[j]? = some v → Value.okWide Try.prog W .any base t v := hval0
  have hW' := hW
  obtain ⟨p, q, hA0, hV, rfl, hfz, hnd⟩ := hW
  have hA : DataW.TrodAll enc Try.prog W 0 (fun _ => true) true Try.f4.params.toList args.toList ds p := hA0
  rw [Try.params4] at hA hval
  obtain ⟨v0, vs0, d0, ds0, p0, q0, hargs, rfl, rfl, h0, r0⟩ := trodAll_cons hA
  obtain ⟨rfl, rfl, rfl⟩ := trodAll_nil r0
  obtain rfl : args = #[v0] := by cases args; simp_all
  obtain ⟨rfl, rfl⟩ := trodVars_none hV
  have k0 := h0
  have lt0 : ∀ x ∈ p0, x.block < W.heap.size := by obtain ⟨m, hm⟩ := k0; exact DataW.trod_lt m _ _ _ hm
  obtain ⟨a0, len0, cap0, rfl⟩ := okWide_slice Try.underlying32 (hval 0 32 v0 rfl rfl)
  obtain ⟨z0, w0⟩ : ∃ zs, IsRow .u8 W a0 len0 cap0 zs := by
    obtain ⟨fuel, hf⟩ := h0
    rcases open_ints Try.underlying32 Try.underlying5 (by kernel_rfl) hf with ⟨hcs, _⟩ | ⟨x, l, c, zs, hcs, _, hl, hm, hz, _, hcell, hwz⟩
    · simp [Value.cells] at hcs
      obtain ⟨rfl, rfl, rfl⟩ := hcs
      exact ⟨[], .inl ⟨rfl, rfl, rfl, rfl⟩⟩
    · simp [Value.cells] at hcs
      obtain ⟨rfl, rfl, rfl⟩ := hcs
      exact ⟨zs, .inr ⟨_, rfl, hl, hm, by simpa using hz, hcell, hwz⟩⟩
  clear hA0 hval0
  refine (walk a0 len0 cap0 z0 W w0).mono fun e W' ⟨he, bel⟩ => ?_
  subst he
  exact ⟨_, rfl, _, _, _, [], _, [], hW', trodAll_mk1 (shut_bool Try.underlying4 _), (trodAll_cons_mk (Below.trod laidOut (by kernel_rfl) (of_decide_eq_true (by kernel_rfl)) k0 bel lt0) trodAll_mk0), rfl, bel.frame _, fun h => by cases h⟩

theorem over : Rows.blockReadsRow.holds Try.pinned (OpenSpec.ofChange Rows.blockReadsSpec) :=
  OpenClaim.holds_of_wide 4 Try.f4 rfl rfl rfl rfl rfl rfl rfl ⟨rfl, rfl, rfl, rfl, rfl⟩ rfl rfl rfl rfl rfl (by kernel_rfl) Try.func4 (by kernel_rfl)
    (of_decide_eq_true (by kernel_rfl)) (by unfold Func.isWrapper; first | (rw [if_pos (by decide +kernel)]; kernel_rfl) | (rw [if_neg (by decide +kernel)]; exact ⟨rfl, rfl⟩))
    (fun os started H enc _ => lifted os started H enc)

/-- THE STATEMENT -/
theorem blockReads_holds : Rows.BlockReadsSaid := over
#print axioms blockReads_holds
end Go.Proofs.Ytbagpckiegpalaa.blockReads
