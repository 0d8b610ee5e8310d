/-
  ShuffleKeeps: putting rows together, or jobs ahead, in any order, each job keeps its nodes, all of them, in one row, and no more rows are used than were; for every input.
  (The frame behind the walk is the guide's shell, at these parameters.)
-/
import Derived.Test.YtnffmijanikjgaaRows
import Derived.WalkKit
import Derived.Test.YtnffmijanikjgaaBldB
import Derived.Test.YtnffmijanikjgaaShfN
import Derived.ProofKit
import Derived.Deep.Cut
import Derived.Deep.CutRange
import Derived.Deep.CutBlock
import Derived.Deep.Grids
import Derived.OpenShut
import Derived.ShutString
import Derived.ChangeOld
import Derived.Below
namespace Go.Proofs.Ytnffmijanikjgaa.shuffleKeeps
open Go.ChangeShapes Go.WideShapes Go.ChangeAt Go.RowKit
open Go.ChangeMaps (open_string shut_string)
set_option linter.unusedVariables false

theorem own : ownKnob Try.prog.godebug = none := by kernel_rfl
theorem laidOut : laidOutB Try.prog = true := by kernel_rfl

/-- What the walk is told of a slice of bools that came in. -/
def IsBools (w : World) (a : Option Addr) (len cap : Nat) : Prop :=
  (a = none ∧ len = 0 ∧ cap = 0) ∨ ∃ (x : Addr) (B : Nat → Bool), a = some x ∧ len ≤ cap ∧ cap ≤ maxLen ∧ ∀ i, i < cap → w.cell? (x.add i) = some (.bool (B i))

theorem isBools_of {H : Type} {enc : TypeId × Value → H} {w : World} {base : Nat} {held : Bool} {a : Option Addr} {len cap : Nat} {d : DataW H} {p : List MemPlace}
    (h : DataW.Trod enc Try.prog w base (fun _ => true) held 47 (.slice a len cap) d p) : IsBools w a len cap := by
  obtain ⟨fuel, hf⟩ := h
  rcases Go.Deep.open_bools Try.underlying47 Try.underlying4 (by kernel_rfl) hf with ⟨hcs, _⟩ | ⟨x, l, c, B, hcs, _, hl, hm, _, hcell⟩
  · simp [Value.cells] at hcs
    obtain ⟨rfl, rfl, rfl⟩ := hcs
    exact .inl ⟨rfl, rfl, rfl⟩
  · simp [Value.cells] at hcs
    obtain ⟨rfl, rfl, rfl⟩ := hcs
    exact .inr ⟨x, B, rfl, hl, hm, hcell⟩

theorem IsBools.below {w w' : World} {a : Option Addr} {len cap : Nat} (h : IsBools w a len cap) (hb : Below w.heap.size w w') : IsBools w' a len cap := by
  rcases h with h | ⟨x, B, rfl, h1, h2, h3⟩
  · exact .inl h
  · refine .inr ⟨x, B, rfl, h1, h2, fun i hi => ?_⟩
    have := h3 i hi
    rw [hb.cell (World.block_lt_of_cell? _ _ this)]; exact this

theorem IsBools.at {w : World} {a : Option Addr} {len cap : Nat} (h : IsBools w a len cap) (k : Nat) (hk : k < len) : ∃ g o v, a = some ⟨g, o, none⟩ ∧ w.cell? ⟨g, o + k, none⟩ = some (.bool v) := by
  rcases h with ⟨_, rfl, _⟩ | ⟨⟨g, o, s⟩, B, rfl, h1, h2, h3⟩
  · omega
  · have h0 := h3 0 (by omega)
    have hs : s = none := by simpa [Addr.add] using World.cell?_spot h0
    subst hs
    have := h3 k (by omega)
    rw [Addr.add_lit] at this
    exact ⟨g, o, _, rfl, this⟩

theorem IsBools.bounds {w : World} {a : Option Addr} {len cap : Nat} (h : IsBools w a len cap) : len ≤ cap ∧ cap ≤ 9223372036854775807 := by
  rcases h with ⟨rfl, rfl, rfl⟩ | ⟨x, B, rfl, h1, h2, _⟩
  · exact ⟨Nat.le_refl _, by omega⟩
  · unfold maxLen at h2
    exact ⟨h1, by omega⟩

theorem jobs_where {m : Mx} (ho : One m) {j : Nat} (hj : j ∈ m.jobs) : ∃ i, m.where j = some i := Option.isSome_iff_exists.1 ((jobs_iff ho).1 hj)

set_option maxRecDepth 100000 in
set_option maxHeartbeats 8000000 in
theorem walk (a0 : Int) (a1 : Int) (a2 : Option Addr) (len2 cap2 : Nat) (a3 : Option Addr) (len3 cap3 : Nat) (w : World) (w0 : (Lit.int .u8 a0).wf = true) (w1 : (Lit.int .u8 a1).wf = true) (w2 : IsStands w a2 len2 cap2) (w3 : IsBools w a3 len3 cap3) :
    Calls Try.prog 5 #[.int .u8 a0, .int .u8 a1, .slice a2 len2 cap2, .slice a3 len3 cap3] w fun e w' => e = .returned (.bool true) ∧ Below w.heap.size w w' := by
  have bd0 := bounds_u8 w0
  have bd1 := bounds_u8 w1
  obtain ⟨r0, rfl⟩ := Int.eq_ofNat_of_zero_le (show 0 ≤ a0 by omega)
  obtain ⟨n0, rfl⟩ := Int.eq_ofNat_of_zero_le (show 0 ≤ a1 by omega)
  have HS := hid w2
  have HR0 := hid (show r0 < 256 by omega)
  have HN0 := hid (show n0 < 256 by omega)
  have HBO := hid w3
  clear w0 w1 w2 w3 bd0 bd1
  go_enter Try.func5, Try.ntmps5
  go_wp2_with fail
  refine (awake13_any w).mono ?_
  rintro e wa ⟨rfl, hba⟩
  have HBA := hid hba
  have hsa := hba.size
  clear hba
  go_wp2_with fail
  refine (build13_any wa r0 n0 0 HR0.out HN0.out (by decide) a2 len2 cap2 (HS.out.below HBA.out)).mono ?_
  rintro e wb ⟨lo, G, m, rfl, hX⟩
  have HX := hid hX
  have hlb := hX.at_.lt
  have HSB := hid (show wa.heap.size ≤ wb.heap.size from hX.bel.size)
  have hn16 := hX.at_.n16
  have HB0 := hid (show Below w.heap.size w wb from HBA.out.trans (hX.bel.mono hsa))
  have HONE := hid hX.one
  clear hX
  obtain ⟨hbl1, hbl2⟩ := HBO.out.bounds
  go_wp2
  go_loopw [11, 35] (fun c i wr => ∃ (k : Nat) (mk : Mx) (bk : Nat), k ≤ len3 ∧ k ≤ 8 ∧ i = .int .i64 k ∧ c = .pointer (some ⟨bk, 0, none⟩) ∧ MxAt wr wa.heap.size m ∧ MxAt wr bk mk ∧ Kept m mk ∧ Below w.heap.size w wr) (fun _ i _ => len3 - (intOf i).toNat)
  case atStart => exact ⟨0, m, wa.heap.size, Nat.zero_le _, by decide, rfl, rfl, HX.out.at_, HX.out.at_, ⟨rfl, rfl, rfl, HONE.out, fun _ => rfl, fun _ => rfl⟩, HB0.out⟩
  case round =>
    obtain ⟨k, mk, bk, hk, hk8, rfl, rfl, hm, hmk, hkp, hB⟩ := hrel
    have HM := hid hm
    have HMK := hid hmk
    have HKP := hid hkp
    have HBW := hid hB
    have HK8 := hid hk8
    have hs0 := hB.size
    have hlm := hm.lt
    have hlk := hmk.lt
    clear hm hmk hkp hB hk8
    by_cases hlt : k < len3
    · have hki : (k : Int) < (len3 : Int) := by omega
      obtain ⟨og, oo, ov, rfl, hoc⟩ := (HBO.out.below HBW.out).at k hlt
      by_cases h8 : k < 8
      · have h8i : (k : Int) < 8 := by omega
        have hk9 : k + 1 ≤ 8 := h8
        have HK9 := hid hk9
        clear h8 hk9
        obtain ⟨wq, hwq⟩ : ∃ wq, wq = wr := ⟨_, rfl⟩
        subst hwq
        go_wp2_with fail
        refine (used_any wq bk mk HMK.out).mono ?_
        rintro e w6 ⟨rfl, hb6⟩
        have HM6 := hid (HMK.out.below hb6 hlk)
        have HMM6 := hid (HM.out.below hb6 hlm)
        have HB6 := hid (HBW.out.trans (hb6.mono hs0))
        have hs6 := hb6.size
        clear hb6 hoc
        cases ov with
        | true =>
          go_wp2_with fail
          refine (unify_any w6 bk mk HM6.out HKP.out.one).mono ?_
          rintro e w7 ⟨v7, rfl, -, hm7, hb7⟩
          have hway := unify_way (m := mk) (by rw [HKP.out.n]; exact hn16) HKP.out.one
          have hus := unify_used (m := mk) (by rw [HKP.out.n]; exact hn16) HKP.out.one
          have HM7 := hid hm7
          have HB7 := hid (HB6.out.trans (hb7.mono HB6.out.size))
          have HMM7 := hid (HMM6.out.below hb7 (by omega))
          have HKP7 := hid (HKP.out.trans hway.kp)
          have hs7 := hb7.size
          have hl7 := hm7.lt
          generalize mk.unify.1 = mk7 at *
          clear hm7 hb7 hway
          go_wp2_with fail
          refine (used_any w7 w6.heap.size mk7 HM7.out).mono ?_
          rintro e w8 ⟨rfl, hb8⟩
          have HM8 := hid (HM7.out.below hb8 hl7)
          have HMM8 := hid (HMM7.out.below hb8 (by omega))
          have HB8 := hid (HB7.out.trans (hb8.mono HB7.out.size))
          have hgt : decide ((mk7.used : Int) > (mk.used : Int)) = false := by simp; omega
          generalize mk7.used = us7 at *
          generalize mk.used = us at *
          clear hb8
          go_wp2_with fail
          go_roundw
          case rel => exact ⟨k + 1, mk7, _, hlt, HK9.out, by go_num, rfl, HMM8.out, HM8.out, HKP7.out, HB8.out⟩
          case measure => simp [intOf]; omega
        | false =>
          go_wp2_with fail
          refine (repack_any w6 bk mk HM6.out HKP.out.one).mono ?_
          rintro e w7 ⟨v7, rfl, -, hm7, hb7⟩
          have hway := repack_way (m := mk) (by rw [HKP.out.n]; exact hn16) HKP.out.one
          have hus := repack_used (m := mk) (by rw [HKP.out.n]; exact hn16) HKP.out.one
          have HM7 := hid hm7
          have HB7 := hid (HB6.out.trans (hb7.mono HB6.out.size))
          have HMM7 := hid (HMM6.out.below hb7 (by omega))
          have HKP7 := hid (HKP.out.trans hway.kp)
          have hs7 := hb7.size
          have hl7 := hm7.lt
          generalize mk.repack.1 = mk7 at *
          clear hm7 hb7 hway
          go_wp2_with fail
          refine (used_any w7 w6.heap.size mk7 HM7.out).mono ?_
          rintro e w8 ⟨rfl, hb8⟩
          have HM8 := hid (HM7.out.below hb8 hl7)
          have HMM8 := hid (HMM7.out.below hb8 (by omega))
          have HB8 := hid (HB7.out.trans (hb8.mono HB7.out.size))
          have hgt : decide ((mk7.used : Int) > (mk.used : Int)) = false := by simp; omega
          generalize mk7.used = us7 at *
          generalize mk.used = us at *
          clear hb8
          go_wp2_with fail
          go_roundw
          case rel => exact ⟨k + 1, mk7, _, hlt, HK9.out, by go_num, rfl, HMM8.out, HM8.out, HKP7.out, HB8.out⟩
          case measure => simp [intOf]; omega
      · have h8i : ¬ (k : Int) < 8 := by omega
        have h8j : (8 : Int) ≤ (k : Int) := by omega
        clear h8
        go_wp2_with fail
        refine (jobs_any wr bk mk HMK.out).mono ?_
        rintro e w5 ⟨v5, rfl, hv5, hb5⟩
        have hjs := jobs_same HKP.out HONE.out
        rw [hjs] at hv5
        have HR5 := hid (RdV.of_own hv5)
        have HB5 := hid (HBW.out.trans (hb5.mono hs0))
        have HM5 := hid (HM.out.below hb5 hlm)
        have HK5 := hid (HMK.out.below hb5 hlk)
        have hs5 := hb5.size
        have HJW := hid (fun j (hj : j ∈ m.jobs) => jobs_where HONE.out hj)
        clear hv5 hb5 hjs
        go_wp2_with fail
        refine (jobs_any w5 wa.heap.size m HM5.out).mono ?_
        rintro e w6 ⟨v6, rfl, hv6, hb6⟩
        have HR6 := hid (RdV.of_own hv6)
        have HR65 := hid (HR5.out.all hb6)
        have HB6 := hid (HB5.out.trans (hb6.mono HB5.out.size))
        have HM6 := hid (HM5.out.below hb6 (by omega))
        have HK6 := hid (HK5.out.below hb6 (by omega))
        have hs6 := hb6.size
        clear hv6 hb6
        go_wp2_with fail
        refine (same_any w6 v5 v6 m.jobs m.jobs HR65.out HR6.out).mono ?_
        rintro e w7 ⟨rfl, hb7⟩
        rw [decide_eq_true rfl]
        have HB7 := hid (HB6.out.trans (hb7.mono HB6.out.size))
        have HM7 := hid (HM6.out.below hb7 (by omega))
        have HK7 := hid (HK6.out.below hb7 (by omega))
        have hs7 := hb7.size
        clear hb7
        go_wp2_with fail
        refine (jobs_any w7 wa.heap.size m HM7.out).mono ?_
        rintro e w8 ⟨v8, rfl, hv8, hb8⟩
        have HR8 := hid (RdV.of_own hv8)
        have HB8 := hid (HB7.out.trans (hb8.mono HB7.out.size))
        have HM8 := hid (HM7.out.below hb8 (by omega))
        have HK8 := hid (HK7.out.below hb8 (by omega))
        obtain ⟨a8, c8, rfl, hd1, hd2⟩ := owns_slice hv8
        clear hv8 hb8
        generalize m.jobs = js at *
        go_wp2_with fail
        go_loopw [69] (fun i wr => ∃ q : Nat, q ≤ js.length ∧ i = .int .i64 q ∧ MxAt wr wa.heap.size m ∧ MxAt wr bk mk ∧ RdV wr (.slice a8 js.length c8) (js.map uv) ∧ Below w.heap.size w wr) (fun i _ => js.length - (intOf i).toNat)
        case atStart => exact ⟨0, Nat.zero_le _, rfl, HM8.out, HK8.out, HR8.out, HB8.out⟩
        case round =>
          obtain ⟨q, hq, rfl, hm1, hm2, hr, hB⟩ := hrel
          have HM9 := hid hm1
          have HK9 := hid hm2
          have HR9 := hid hr
          have HB9 := hid hB
          have hs9 := hB.size
          have hl8 := hm1.lt
          have hl9 := hm2.lt
          clear hm1 hm2 hr hB
          by_cases hql : q < js.length
          · have hqi : (q : Int) < (js.length : Int) := by omega
            obtain ⟨j, hj⟩ : ∃ j, js[q]? = some j := ⟨_, List.getElem?_eq_getElem hql⟩
            obtain ⟨i0, hw⟩ := HJW.out j (List.mem_of_getElem? hj)
            have hw2 : ∃ i1, mk.where j = some i1 := by
              have := HKP.out.some j
              rw [hw] at this
              exact Option.isSome_iff_exists.1 this
            obtain ⟨i1, hw2⟩ := hw2
            have hnd : mk.own i1 j = m.own i0 j := by
              have := HKP.out.nodes j
              rwa [Mx.nodes_of hw2, Mx.nodes_of hw] at this
            have HW := hid hw
            have HW2 := hid hw2
            have HND := hid hnd
            obtain ⟨-, g, o, hae, hg, hcell⟩ := HR9.out.at1 q (uv j) (by simp [hj])
            have hcell2 : wr.cell? ⟨g, o + q, none⟩ = some (.int .u32 (j : Nat)) := hcell
            obtain ⟨wz, hwz⟩ : ∃ wz, wz = wr := ⟨_, rfl⟩
            subst hwz
            clear hcell hj hg hw hw2 hnd
            subst hae
            go_wp2_with fail
            refine (of_some wz wa.heap.size m j i0 HM9.out HW.out).mono ?_
            rintro e w10 ⟨v10, rfl, hv10, -, hb10⟩
            have HV10 := hid (RdV.of_own hv10)
            have HB10 := hid (HB9.out.trans (hb10.mono hs9))
            have HM10 := hid (HM9.out.below hb10 hl8)
            have HK10 := hid (HK9.out.below hb10 hl9)
            have HR10 := hid (HR9.out.all hb10)
            have hs10 := hb10.size
            clear hb10 hv10
            go_wp2_with fail
            refine (of_some w10 bk mk j i1 HK10.out HW2.out).mono ?_
            rintro e w11 ⟨v11, rfl, hv11, -, hb11⟩
            rw [HND.out] at hv11
            have HV11 := hid (RdV.of_own hv11)
            have HV12 := hid (HV10.out.all hb11)
            have HB11 := hid (HB10.out.trans (hb11.mono HB10.out.size))
            have HM11 := hid (HM10.out.below hb11 (by omega))
            have HK11 := hid (HK10.out.below hb11 (by omega))
            have HR11 := hid (HR10.out.all hb11)
            have hs11 := hb11.size
            clear hb11 hv11
            go_wp2_with fail
            refine (sameints_any w11 v10 v11 (m.own i0 j) (m.own i0 j) HV12.out HV11.out).mono ?_
            rintro e w12 ⟨rfl, hb12⟩
            rw [decide_eq_true rfl]
            have HB12 := hid (HB11.out.trans (hb12.mono HB11.out.size))
            have HM12 := hid (HM11.out.below hb12 (by omega))
            have HK12 := hid (HK11.out.below hb12 (by omega))
            have HR12 := hid (HR11.out.all hb12)
            clear hb12
            go_wp2_with fail
            go_roundw
            case rel => exact ⟨q + 1, hql, by go_num, HM12.out, HK12.out, HR12.out, HB12.out⟩
            case measure => simp [intOf]; omega
          · have hqi : ¬ (q : Int) < (js.length : Int) := by omega
            clear hql
            go_wp2
            go_ret
            exact ⟨rfl, HB9.out⟩
    · have hki : ¬ (k : Int) < (len3 : Int) := by omega
      clear hlt
      go_wp2_with fail
      refine (jobs_any wr bk mk HMK.out).mono ?_
      rintro e w5 ⟨v5, rfl, hv5, hb5⟩
      have hjs := jobs_same HKP.out HONE.out
      rw [hjs] at hv5
      have HR5 := hid (RdV.of_own hv5)
      have HB5 := hid (HBW.out.trans (hb5.mono hs0))
      have HM5 := hid (HM.out.below hb5 hlm)
      have HK5 := hid (HMK.out.below hb5 hlk)
      have hs5 := hb5.size
      have HJW := hid (fun j (hj : j ∈ m.jobs) => jobs_where HONE.out hj)
      clear hv5 hb5 hjs
      go_wp2_with fail
      refine (jobs_any w5 wa.heap.size m HM5.out).mono ?_
      rintro e w6 ⟨v6, rfl, hv6, hb6⟩
      have HR6 := hid (RdV.of_own hv6)
      have HR65 := hid (HR5.out.all hb6)
      have HB6 := hid (HB5.out.trans (hb6.mono HB5.out.size))
      have HM6 := hid (HM5.out.below hb6 (by omega))
      have HK6 := hid (HK5.out.below hb6 (by omega))
      have hs6 := hb6.size
      clear hv6 hb6
      go_wp2_with fail
      refine (same_any w6 v5 v6 m.jobs m.jobs HR65.out HR6.out).mono ?_
      rintro e w7 ⟨rfl, hb7⟩
      rw [decide_eq_true rfl]
      have HB7 := hid (HB6.out.trans (hb7.mono HB6.out.size))
      have HM7 := hid (HM6.out.below hb7 (by omega))
      have HK7 := hid (HK6.out.below hb7 (by omega))
      have hs7 := hb7.size
      clear hb7
      go_wp2_with fail
      refine (jobs_any w7 wa.heap.size m HM7.out).mono ?_
      rintro e w8 ⟨v8, rfl, hv8, hb8⟩
      have HR8 := hid (RdV.of_own hv8)
      have HB8 := hid (HB7.out.trans (hb8.mono HB7.out.size))
      have HM8 := hid (HM7.out.below hb8 (by omega))
      have HK8 := hid (HK7.out.below hb8 (by omega))
      obtain ⟨a8, c8, rfl, hd1, hd2⟩ := owns_slice hv8
      clear hv8 hb8
      generalize m.jobs = js at *
      go_wp2_with fail
      go_loopw [69] (fun i wr => ∃ q : Nat, q ≤ js.length ∧ i = .int .i64 q ∧ MxAt wr wa.heap.size m ∧ MxAt wr bk mk ∧ RdV wr (.slice a8 js.length c8) (js.map uv) ∧ Below w.heap.size w wr) (fun i _ => js.length - (intOf i).toNat)
      case atStart => exact ⟨0, Nat.zero_le _, rfl, HM8.out, HK8.out, HR8.out, HB8.out⟩
      case round =>
        obtain ⟨q, hq, rfl, hm1, hm2, hr, hB⟩ := hrel
        have HM9 := hid hm1
        have HK9 := hid hm2
        have HR9 := hid hr
        have HB9 := hid hB
        have hs9 := hB.size
        have hl8 := hm1.lt
        have hl9 := hm2.lt
        clear hm1 hm2 hr hB
        by_cases hql : q < js.length
        · have hqi : (q : Int) < (js.length : Int) := by omega
          obtain ⟨j, hj⟩ : ∃ j, js[q]? = some j := ⟨_, List.getElem?_eq_getElem hql⟩
          obtain ⟨i0, hw⟩ := HJW.out j (List.mem_of_getElem? hj)
          have hw2 : ∃ i1, mk.where j = some i1 := by
            have := HKP.out.some j
            rw [hw] at this
            exact Option.isSome_iff_exists.1 this
          obtain ⟨i1, hw2⟩ := hw2
          have hnd : mk.own i1 j = m.own i0 j := by
            have := HKP.out.nodes j
            rwa [Mx.nodes_of hw2, Mx.nodes_of hw] at this
          have HW := hid hw
          have HW2 := hid hw2
          have HND := hid hnd
          obtain ⟨-, g, o, hae, hg, hcell⟩ := HR9.out.at1 q (uv j) (by simp [hj])
          have hcell2 : wr.cell? ⟨g, o + q, none⟩ = some (.int .u32 (j : Nat)) := hcell
          obtain ⟨wz, hwz⟩ : ∃ wz, wz = wr := ⟨_, rfl⟩
          subst hwz
          clear hcell hj hg hw hw2 hnd
          subst hae
          go_wp2_with fail
          refine (of_some wz wa.heap.size m j i0 HM9.out HW.out).mono ?_
          rintro e w10 ⟨v10, rfl, hv10, -, hb10⟩
          have HV10 := hid (RdV.of_own hv10)
          have HB10 := hid (HB9.out.trans (hb10.mono hs9))
          have HM10 := hid (HM9.out.below hb10 hl8)
          have HK10 := hid (HK9.out.below hb10 hl9)
          have HR10 := hid (HR9.out.all hb10)
          have hs10 := hb10.size
          clear hb10 hv10
          go_wp2_with fail
          refine (of_some w10 bk mk j i1 HK10.out HW2.out).mono ?_
          rintro e w11 ⟨v11, rfl, hv11, -, hb11⟩
          rw [HND.out] at hv11
          have HV11 := hid (RdV.of_own hv11)
          have HV12 := hid (HV10.out.all hb11)
          have HB11 := hid (HB10.out.trans (hb11.mono HB10.out.size))
          have HM11 := hid (HM10.out.below hb11 (by omega))
          have HK11 := hid (HK10.out.below hb11 (by omega))
          have HR11 := hid (HR10.out.all hb11)
          have hs11 := hb11.size
          clear hb11 hv11
          go_wp2_with fail
          refine (sameints_any w11 v10 v11 (m.own i0 j) (m.own i0 j) HV12.out HV11.out).mono ?_
          rintro e w12 ⟨rfl, hb12⟩
          rw [decide_eq_true rfl]
          have HB12 := hid (HB11.out.trans (hb12.mono HB11.out.size))
          have HM12 := hid (HM11.out.below hb12 (by omega))
          have HK12 := hid (HK11.out.below hb12 (by omega))
          have HR12 := hid (HR11.out.all hb12)
          clear hb12
          go_wp2_with fail
          go_roundw
          case rel => exact ⟨q + 1, hql, by go_num, HM12.out, HK12.out, HR12.out, HB12.out⟩
          case measure => simp [intOf]; omega
        · have hqi : ¬ (q : Int) < (js.length : Int) := by omega
          clear hql
          go_wp2
          go_ret
          exact ⟨rfl, HB9.out⟩

/-! ### THE ROW's STEP -/
set_option maxRecDepth 100000 in
theorem lifted (os : Os) (started : os.Started) (H : Type) (enc : TypeId × Value → H) :
    ReturnsInHanded {} Try.checked os 5 .any (Rows.shuffleKeepsSpec.pre6 enc Try.prog Try.f5 Rows.shuffleKeepsRow.domain false) (Rows.shuffleKeepsSpec.post enc Try.prog Try.f5 false true false false) := by
  refine returnsInHanded_of_change (C := Try.checked) own started (by kernel_rfl) Try.func5
    (ChangeSpec.witness6 (enc := enc) (C := Try.checked) false ⟨#[], #[.int .u8 0, .int .u8 0, .slice none 0 0, .slice none 0 0], []⟩ 8 (by kernel_rfl) (by kernel_rfl) (by kernel_rfl) (by kernel_rfl)) ?_
  intro W base args ds gs before hval0 hW hcnd _
  have hval : ∀ (j : Nat) t v, Try.f5.params[j]? = some t → args[j]? = some v → Value.okWide Try.prog W .any base t v := hval0
  have hW' := hW
  obtain ⟨p, q, hA0, hV, rfl, hfz, hnd⟩ := hW
  have hA : DataW.TrodAll enc Try.prog W 0 (fun _ => true) true Try.f5.params.toList args.toList ds p := hA0
  rw [Try.params5] at hA hval
  obtain ⟨v0, vs0, d0, ds0, p0, q0, hargs, rfl, rfl, h0, r0⟩ := trodAll_cons hA
  obtain ⟨v1, vs1, d1, ds1, p1, q1, rfl, rfl, rfl, h1, r1⟩ := trodAll_cons r0
  obtain ⟨v2, vs2, d2, ds2, p2, q2, rfl, rfl, rfl, h2, r2⟩ := trodAll_cons r1
  obtain ⟨v3, vs3, d3, ds3, p3, q3, rfl, rfl, rfl, h3, r3⟩ := trodAll_cons r2
  obtain ⟨rfl, rfl, rfl⟩ := trodAll_nil r3
  obtain rfl : args = #[v0, v1, v2, v3] := by cases args; simp_all
  obtain ⟨rfl, rfl⟩ := trodVars_none hV
  have k0 := h0
  have lt0 : ∀ x ∈ p0, x.block < W.heap.size := by obtain ⟨m, hm⟩ := k0; exact DataW.trod_lt m _ _ _ hm
  have k1 := h1
  have lt1 : ∀ x ∈ p1, x.block < W.heap.size := by obtain ⟨m, hm⟩ := k1; exact DataW.trod_lt m _ _ _ hm
  have k2 := h2
  have lt2 : ∀ x ∈ p2, x.block < W.heap.size := by obtain ⟨m, hm⟩ := k2; exact DataW.trod_lt m _ _ _ hm
  have k3 := h3
  have lt3 : ∀ x ∈ p3, x.block < W.heap.size := by obtain ⟨m, hm⟩ := k3; exact DataW.trod_lt m _ _ _ hm
  obtain ⟨a0, rfl, rfl, rfl, w0⟩ := open_int Try.underlying5 (hval 0 5 v0 rfl rfl) h0
  obtain ⟨a1, rfl, rfl, rfl, w1⟩ := open_int Try.underlying5 (hval 1 5 v1 rfl rfl) h1
  obtain ⟨a2, len2, cap2, rfl⟩ := okWide_slice Try.underlying54 (hval 2 54 v2 rfl rfl)
  have w2 : IsStands W a2 len2 cap2 := isStands_of h2
  obtain ⟨a3, len3, cap3, rfl⟩ := okWide_slice Try.underlying47 (hval 3 47 v3 rfl rfl)
  have w3 : IsBools W a3 len3 cap3 := isBools_of h3
  clear hA0 hval0
  refine (walk a0 a1 a2 len2 cap2 a3 len3 cap3 W w0 w1 w2 w3).mono fun e W' ⟨he, bel⟩ => ?_
  subst he
  exact ⟨_, rfl, _, _, _, [], _, [], hW', trodAll_mk1 (shut_bool Try.underlying4 _), (trodAll_cons_mk (Below.trod laidOut (by kernel_rfl) (of_decide_eq_true (by kernel_rfl)) k0 bel lt0) (trodAll_cons_mk (Below.trod laidOut (by kernel_rfl) (of_decide_eq_true (by kernel_rfl)) k1 bel lt1) (trodAll_cons_mk (Below.trod laidOut (by kernel_rfl) (of_decide_eq_true (by kernel_rfl)) k2 bel lt2) (trodAll_cons_mk (Below.trod laidOut (by kernel_rfl) (of_decide_eq_true (by kernel_rfl)) k3 bel lt3) trodAll_mk0)))), rfl, bel.frame _, fun h => by cases h⟩

theorem over : Rows.shuffleKeepsRow.holds Try.pinned (OpenSpec.ofChange Rows.shuffleKeepsSpec) :=
  OpenClaim.holds_of_wide 5 Try.f5 rfl rfl rfl rfl rfl rfl rfl ⟨rfl, rfl, rfl, rfl, rfl⟩ rfl rfl rfl rfl rfl (by kernel_rfl) Try.func5 (by kernel_rfl)
    (of_decide_eq_true (by kernel_rfl)) (by unfold Func.isWrapper; first | (rw [if_pos (by decide +kernel)]; kernel_rfl) | (rw [if_neg (by decide +kernel)]; exact ⟨rfl, rfl⟩))
    (fun os started H enc _ => lifted os started H enc)

/-- THE STATEMENT -/
theorem shuffleKeeps_holds : Rows.ShuffleKeepsSaid := over
#print axioms shuffleKeeps_holds
end Go.Proofs.Ytnffmijanikjgaa.shuffleKeeps
