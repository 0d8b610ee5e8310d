/-
  What is taken down by the oldest number comes in the order in which it began to fly, an echo behind all that flew, at every list of bytes and every number of the one that is echoed; no condition.
  (The frame behind the walk is the guide's shell, at these parameters.)
-/
import Derived.Test.YtecnopopmonlpaaRows
import Derived.WalkKit
import Derived.Test.YtecnopopmonlpaaAwake9
import Derived.Test.YtecnopopmonlpaaMat9
import Derived.Test.YtecnopopmonlpaaSame
import Derived.ProofKit
import Derived.Deep.Cut
import Derived.Deep.CutRange
import Derived.Deep.CutBlock
import Derived.Deep.Grids
import Derived.OpenShut
import Derived.ShutString
import Derived.ChangeOld
import Derived.Below
namespace Go.Proofs.Ytecnopopmonlpaa.airOrder
open Go.ChangeShapes Go.WideShapes Go.ChangeAt Go.RowKit
open Go.ChangeMaps (open_string shut_string)
set_option linter.unusedVariables false

theorem own : ownKnob Try.prog.godebug = none := by kernel_rfl
theorem laidOut : laidOutB Try.prog = true := by kernel_rfl

/-- Behind j of them, with these bytes. -/
def flt (ts : List (List UInt8)) (j : Nat) : Ar := ⟨100, j, (List.range j).map fun i => ⟨i + 1, (i : Int), ts.getD i []⟩⟩

theorem flt_len (ts : List (List UInt8)) (j : Nat) : (flt ts j).l.length = j := by simp [flt]

theorem flt_fly (ts : List (List UInt8)) (j : Nat) (t : List UInt8) (ht : ts[j]? = some t) : (flt ts j).fly (j : Int) t = flt ts (j + 1) := by
  simp [flt, Ar.fly, List.range_succ, ht]

theorem flt_get (ts : List (List UInt8)) (j i : Nat) (t : List UInt8) (h : i < j) (ht : ts[i]? = some t) : (flt ts j).l[i]? = some ⟨i + 1, (i : Int), t⟩ := by
  simp [flt, h, ht]

theorem matrow_at {w : World} {b off K r : Nat} {t : List UInt8} (h : MatRow w b off K r t) : ∃ (A : Option Addr) (L C : Nat), w.cell? ⟨b, off + r, none⟩ = some (.slice A L C) ∧ (if (K : Int) < (L : Int) then (K : Int) else (L : Int)) = (t.length : Int) ∧ t.length ≤ L ∧ L ≤ C ∧ C ≤ 9223372036854775807 ∧ t.length ≤ K ∧ Rd w (.slice A t.length C) t := by
  obtain ⟨A, L, C, h1, h2, h3, h4, h5⟩ := h
  refine ⟨A, L, C, h1, ?_, by omega, h2, h3, by omega, by rw [h4]; exact h5⟩
  rw [h4]
  split <;> omega

/-- The numbers that were given, one by one. -/
def idsOf (j : Nat) : List Value := (List.range j).map fun (i : Nat) => Value.int .u64 ((i : Int) + 1)
theorem idsOf_len (j : Nat) : (idsOf j).length = j := by simp [idsOf]
theorem idsOf_succ (j : Nat) : idsOf (j + 1) = idsOf j ++ [Value.int .u64 ((j : Int) + 1)] := by simp [idsOf, List.range_succ]
theorem idsOf_get (j i : Nat) (h : i < j) : (idsOf j).getD i (.bool false) = .int .u64 ((i : Int) + 1) := by simp [idsOf, h]

/-- What is wanted of each that flies. -/
def Wants (w : World) (l : List Fl) (WV : List Value) : Prop := WV.length = l.length ∧ ∀ (i : Nat) (x : Fl), l[i]? = some x → ∃ A C, WV[i]? = some (.slice A x.t.length C) ∧ Rd w (.slice A x.t.length C) x.t

theorem Wants.push {w : World} {l : List Fl} {WV : List Value} (h : Wants w l WV) (x : Fl) (A : Option Addr) (C : Nat) (hx : Rd w (.slice A x.t.length C) x.t) : Wants w (l ++ [x]) (WV ++ [.slice A x.t.length C]) := by
  refine ⟨by simp [h.1], fun i y hy => ?_⟩
  rcases Nat.lt_or_ge i l.length with hi | hi
  · rw [List.getElem?_append_left hi] at hy
    obtain ⟨A', C', h1, h2⟩ := h.2 i y hy
    exact ⟨A', C', by rw [List.getElem?_append_left (by rw [h.1]; exact hi)]; exact h1, h2⟩
  · rw [List.getElem?_append_right hi] at hy
    have hlt := (List.getElem?_eq_some_iff.1 hy).1
    simp only [List.length_cons, List.length_nil] at hlt
    have e : i = l.length := by omega
    subst e
    simp only [Nat.sub_self, List.getElem?_cons_zero, Option.some.injEq] at hy
    subst hy
    exact ⟨A, C, by rw [List.getElem?_append_right (by rw [h.1]; exact Nat.le_refl _), h.1, Nat.sub_self]; rfl, hx⟩

def arRest (s : Ar) (m : Nat) : Ar := { s with l := s.l.drop m }
theorem rest_fin (s : Ar) (m : Nat) : (arRest s m).fin 0 = arRest s (m + 1) := by
  simp [arRest, Ar.fin]

theorem infoU64 : (Try.prog.info? 31).map (fun i => (i.zero, i.size, i.bytes)) = some (some (.int .u64 0), 1, 8) := by kernel_rfl
theorem infoBS : (Try.prog.info? 32).map (fun i => (i.zero, i.size, i.bytes)) = some (some (.slice none 0 0), 1, 24) := by kernel_rfl

abbrev allTs : List TypeId := [67, 73, 31, 32]

theorem own_grown {w w' : World} {base : Nat} {e : TypeId} {size : Nat} {v : Value} {n : Nat} {xs : List Value} (h : w.ownsRow base e size v n xs) (hg : w.grownBy w' v.ownBlock) (hb : base ≤ w.heap.size) : KT [e] base w w' := by
  refine KT.of_keeps (Keeps.of_grown hg) (fun k _ hk => ?_) hb
  obtain ⟨cur, hc⟩ := owns_ty h k hk
  exact ⟨(World.ownsRow.lt h k hk).1, _, _, _, hc, by simp⟩

set_option maxRecDepth 100000 in
set_option maxHeartbeats 4000000 in
theorem order_none (a0 : Option Addr) (cap0 : Nat) (n : Nat) (w : World) (hn2 : (n : Int) < 256) :
    Calls Try.prog 4 #[.slice a0 0 cap0, .int .u8 (n : Int)] w fun e w' => e = .returned (.bool true) ∧ Below w.heap.size w w' := by
  go_enter Try.func4, Try.ntmps4
  go_wp2_with fail
  refine (awake9_any w).mono ?_
  rintro e wa ⟨rfl, hba⟩
  have HBA := hid hba
  have hsa := hba.size
  clear hba
  go_wp2_with fail
  refine (airnew_yes 100 wa w.heap.size hsa (by omega) (by omega)).mono ?_
  rintro e w1 ⟨rfl, h1, hb1⟩
  have H1 := hid h1
  have HB1 := hid hb1
  clear h1 hb1
  go_wp2_with fail
  refine wp_loop_rounds 1 ?_
  rw [rounds_succ]
  go_wp2_with fail
  refine wp_loop_rounds 1 ?_
  rw [rounds_succ]
  go_wp2_with fail
  refine (airlen_any w.heap.size _ _ w1 H1.out).mono ?_
  rintro e w' ⟨rfl, rfl⟩
  go_wp2_with fail
  go_ret
  exact ⟨rfl, HBA.out.trans (HB1.out.mono hsa)⟩

set_option maxRecDepth 100000 in
set_option maxHeartbeats 8000000 in
theorem order_some (mb off len0 cap0 M : Nat) (n : Nat) (ts : List (List UInt8)) (w : World) (hn2 : (n : Int) < 256) (hmb : mb < w.heap.size) (htl : ts.length = len0) (hrows : ∀ r t, ts[r]? = some t → MatRow w mb off 40 r t) (hcap : len0 ≤ cap0) (hcap2 : cap0 ≤ 9223372036854775807)
    (hM1 : 1 ≤ M) (hM2 : M ≤ len0) (hM3 : M ≤ 40) (hex : len0 = M ∨ (M = 40 ∧ 40 < len0)) :
    Calls Try.prog 4 #[.slice (some ⟨mb, off, none⟩) len0 cap0, .int .u8 (n : Int)] w fun e w' => e = .returned (.bool true) ∧ Below w.heap.size w w' := by
  have HR := hid hrows
  have HTL := hid htl
  have HEX := hid hex
  clear hrows htl hex
  go_enter Try.func4, Try.ntmps4
  go_wp2_with fail
  refine (awake9_any w).mono ?_
  rintro e wa ⟨rfl, hba⟩
  have HBA := hid hba
  have hsa := hba.size
  clear hba
  go_wp2_with fail
  refine (airnew_yes 100 wa w.heap.size hsa (by omega) (by omega)).mono ?_
  rintro e w1 ⟨rfl, h1, hb1⟩
  have H1 := hid (show AirAt w1 w.heap.size wa.heap.size (flt ts 0) from h1)
  have hs1 := hb1.size
  have K1 := hid ((KT.of_below (ts := allTs) HBA.out (Nat.le_refl _)).trans (KT.of_below hb1 hsa))
  obtain ⟨b, hb⟩ : ∃ b, b = wa.heap.size := ⟨_, rfl⟩
  rw [← hb] at H1
  rw [← hb]
  clear h1 hb1 hb
  go_wp2_with fail
  go_loopw [7, 8, 32] (fun v7 v8 i wr => ∃ (j : Nat) (qa ia : Option Addr) (qc ic : Nat) (WV : List Value), j ≤ M ∧ v7 = .slice qa j qc ∧ v8 = .slice ia j ic ∧ i = .int .i64 j ∧ AirAt wr w.heap.size b (flt ts j) ∧ wr.ownsRow w.heap.size 31 1 (.slice ia j ic) j (idsOf j) ∧ wr.ownsRow w.heap.size 32 1 (.slice qa j qc) j WV ∧ Wants w (flt ts j).l WV ∧ KT allTs w.heap.size w wr) (fun _ _ i _ => M - (intOf i).toNat)
  case atStart => exact ⟨0, none, none, 0, 0, [], Nat.zero_le _, rfl, rfl, rfl, H1.out, World.ownsRow_nil _ _ _ _, World.ownsRow_nil _ _ _ _, ⟨rfl, (fun i x hx => by simp [flt] at hx)⟩, K1.out⟩
  case round =>
    obtain ⟨j, qa, ia, qc, ic, WV, hj, rfl, rfl, rfl, hA, hI, hQ, hW, hK⟩ := hrel
    have HA := hid hA
    have HI := hid hI
    have HQ := hid hQ
    have HW := hid hW
    have HK := hid hK
    have hsr := hK.size
    have hic : j ≤ ic ∧ ic ≤ 9223372036854775807 := by
      obtain ⟨a, c, e, h1, h2⟩ := owns_slice hI
      simp only [Value.slice.injEq] at e
      obtain ⟨_, _, rfl⟩ := e
      exact ⟨h1, h2⟩
    have hqc : j ≤ qc ∧ qc ≤ 9223372036854775807 := by
      obtain ⟨a, c, e, h1, h2⟩ := owns_slice hQ
      simp only [Value.slice.injEq] at e
      obtain ⟨_, _, rfl⟩ := e
      exact ⟨h1, h2⟩
    clear hA hI hQ hW hK
    by_cases hlt : j < M
    · obtain ⟨t, ht⟩ : ∃ t, ts[j]? = some t := ⟨_, List.getElem?_eq_getElem (by rw [HTL.out]; omega)⟩
      obtain ⟨A, L, C, hc, m40, l1, l2, l3, l4, hrd⟩ := matrow_at (HR.out j t ht)
      rw [show ((40 : Nat) : Int) = 40 from rfl] at m40
      have hcell := (HK.out.below.cell (p := ⟨mb, off + j, none⟩) hmb).trans hc
      have HT := hid ht
      have HRD0 := hid hrd
      have HRD := hid (hrd.below HK.out.below)
      have jC : (t.length : Int) ≤ (C : Int) := by omega
      have hj40 : ¬ (40 : Int) ≤ (j : Int) := by omega
      have hjl : (j : Int) < (len0 : Int) := by omega
      have HE := hid (Own.empty wr wr.heap.size (Nat.le_refl _))
      have HRE := hid (HRD.out.alloc (.cells #[] 5))
      clear ht hc hrd
      go_wp2_with (at_builtin; (refine appk rfl (.tmp 47) (.tmp 48) rfl wr.heap.size (.slice (some ⟨wr.heap.size, 0, none⟩) 0 0) _ [] t t t.length rfl rfl HE.out HRE.out (by simp) rfl (by simp; omega) (by simp) ?_); intro ad cp w5 ho hg; have HO := hid ho; have HG := hid hg; clear ho hg)
      have h5b : Below wr.heap.size wr w5 := ((Below.refl _ _).alloc (Nat.le_refl _) _).grown HG.out (by simp) (fun k hk => by have := (HE.out.lt k hk).1; omega)
      have HB5 := hid h5b
      have hs5 := h5b.size
      have HI5 := hid (owns_below HI.out h5b)
      have HQ5 := hid (owns_below HQ.out h5b)
      clear h5b
      refine (fly_yes w.heap.size b (flt ts j) (j : Int) ad cp t w5 (HA.out.below HB5.out) (by omega) HO.out.rd (by rw [flt_len]; show j < 100; omega) (by simp only [flt]; omega) (by omega)).mono ?_
      rintro e w6 ⟨rfl, h6, k6⟩
      rw [flt_fly ts j t HT.out] at h6
      rw [show (((flt ts j).last : Nat) : Int) + 1 = (j : Int) + 1 from rfl]
      have H6 := hid h6
      have K6 := hid ((HK.out.trans (KT.of_below HB5.out hsr)).trans (k6.mono (fun x hx => by simp at hx; rcases hx with rfl | rfl <;> simp) (Nat.le_refl _)))
      have HI6 := hid (owns_kt HI5.out k6 (by decide))
      have HQ6 := hid (owns_kt HQ5.out k6 (by decide))
      have hs6 := K6.out.size
      clear h6 k6
      have HI6b := hid (owns_below HI6.out ((Below.refl w6.heap.size w6).alloc (Nat.le_refl _) (.cells #[.int .u64 ((j : Int) + 1)] 31)))
      have HS6 := hid (SrcC.lit w6 #[.int .u64 ((j : Int) + 1)] 31 1 _ rfl)
      have HSTEP := hid (show ∀ ad7 cp7 w7 ad8 cp8 w8, (w6.alloc (.cells #[.int .u64 ((j : Int) + 1)] 31)).grownBy w7 (Value.slice ia j ic).ownBlock → w7.ownsRow w.heap.size 31 1 (.slice ad7 (j + 1) cp7) (j + 1) (idsOf j ++ [.int .u64 ((j : Int) + 1)]) →
          (w7.alloc (.cells #[.slice A t.length C] 32)).grownBy w8 (Value.slice qa j qc).ownBlock → w8.ownsRow w.heap.size 32 1 (.slice ad8 (j + 1) cp8) (j + 1) (WV ++ [.slice A t.length C]) →
          AirAt w8 w.heap.size b (flt ts (j + 1)) ∧ w8.ownsRow w.heap.size 31 1 (.slice ad7 (j + 1) cp7) (j + 1) (idsOf (j + 1)) ∧ Wants w (flt ts (j + 1)).l (WV ++ [.slice A t.length C]) ∧ KT allTs w.heap.size w w8 from by
        intro ad7 cp7 w7 ad8 cp8 w8 hg7 ho7 hg8 ho8
        have hb6 : Below w6.heap.size w6 (w6.alloc (.cells #[.int .u64 ((j : Int) + 1)] 31)) := (Below.refl _ _).alloc (Nat.le_refl _) _
        have k7 := own_grown HI6b.out hg7 (Nat.le_trans hs6 hb6.size)
        have hb7 : Below w7.heap.size w7 (w7.alloc (.cells #[.slice A t.length C] 32)) := (Below.refl _ _).alloc (Nat.le_refl _) _
        have hs7 : w.heap.size ≤ w7.heap.size := Nat.le_trans hs6 (Nat.le_trans hb6.size k7.size)
        have hQ7 := owns_below (owns_kt (owns_below HQ6.out hb6) k7 (by decide)) hb7
        have k8 := own_grown hQ7 hg8 (Nat.le_trans hs7 hb7.size)
        refine ⟨((((H6.out.below hb6).kt k7 (by decide) (by decide) (by decide)).below hb7).kt k8 (by decide) (by decide) (by decide)), ?_, ?_, ?_⟩
        · rw [idsOf_succ]
          exact owns_kt (owns_below ho7 hb7) k8 (by decide)
        · have e : (flt ts (j + 1)).l = (flt ts j).l ++ [⟨j + 1, (j : Int), t⟩] := by rw [← flt_fly ts j t HT.out]; rfl
          rw [e]
          exact HW.out.push ⟨j + 1, (j : Int), t⟩ A C HRD0.out
        · exact (((K6.out.trans (KT.of_below hb6 hs6)).trans (k7.mono (fun x hx => by simp at hx; subst hx; simp) (Nat.le_refl _))).trans (KT.of_below hb7 hs7)).trans (k8.mono (fun x hx => by simp at hx; subst hx; simp) (Nat.le_refl _)))
      by_cases hj0 : j = 0
      · subst hj0
        have HRAD := HI6b.out
        clear HRAD
        go_wp2_with (first
          | (at_builtin; (refine appsw (by rfl) 61 31 (.tmp 71) (.tmp 73) rfl w.heap.size 1 8 _ Try.underlying61 infoU64 rfl (by decide) (.slice ia 0 ic) _ 0 1 (0 + 1) _ _ rfl rfl HI6b.out HS6.out rfl (by simp [Value.oneCell']) rfl (by omega) (by omega) (by simp; omega) ?_); intro ad7 cp7 w7 ho7 hg7; have HO7 := hid ho7; have HG7 := hid hg7; have hs7 := (own_grown HI6b.out hg7 (by simp; omega)).size; have hss7 : w.heap.size ≤ w7.heap.size := (by simp at hs7; omega); have HQ7 := hid (owns_below (owns_kt (owns_below HQ6.out ((Below.refl w6.heap.size w6).alloc (Nat.le_refl _) (.cells #[.int .u64 (((0 : Nat) : Int) + 1)] 31))) (own_grown HI6b.out hg7 (by simp; omega)) (by decide)) ((Below.refl w7.heap.size w7).alloc (Nat.le_refl _) (.cells #[.slice A t.length C] 32))); have HS7 := hid (SrcC.lit w7 #[.slice A t.length C] 32 1 _ rfl); clear ho7 hg7 hs7)
          | (at_builtin; (refine appsw (by rfl) 60 32 (.tmp 75) (.tmp 77) rfl w.heap.size 1 24 _ Try.underlying60 infoBS rfl (by decide) (.slice qa 0 qc) _ 0 1 (0 + 1) _ _ rfl rfl HQ7.out HS7.out rfl (by simp [Value.oneCell']) rfl (by omega) (by omega) (by simp; omega) ?_); intro ad8 cp8 w8 ho8 hg8; have HO8 := hid ho8; have HG8 := hid hg8; clear ho8 hg8)
          | fail)
        have HF := hid (HSTEP.out _ _ _ _ _ _ HG7.out HO7.out HG8.out HO8.out)
        go_roundw
        case rel => exact ⟨0 + 1, ad8, ad7, cp8, cp7, _, hlt, rfl, rfl, by go_num, HF.out.1, HF.out.2.1, HO8.out, HF.out.2.2.1, HF.out.2.2.2⟩
        case measure => simp [intOf]; omega
      · have hj1 : 0 < j := by omega
        rcases owns_shape HI6.out with ⟨e0, e1⟩ | ⟨g, cap, ev, hg1, hg2, _, _⟩
        · omega
        · simp only [Value.slice.injEq] at ev
          obtain ⟨rfl, _, rfl⟩ := ev
          have hid1 := owns_cell HI6.out (j - 1) (by rw [idsOf_len]; omega)
          rw [idsOf_get j (j - 1) (by omega), show ((j - 1 : Nat) : Int) + 1 = (j : Int) by omega] at hid1
          have hjm : (j : Int) - 1 = ((j - 1 : Nat) : Int) := by omega
          have hjm0 : (0 : Int) ≤ (j : Int) - 1 := by omega
          have hjm1 : (j : Int) - 1 < (j : Int) := by omega
          have hjt : ((j : Int) - 1).toNat = j - 1 := by omega
          have hjp : (0 : Int) < (j : Int) := by omega
          have HRAD := HI6b.out
          clear HRAD
          go_wp2_with (first
            | (at_builtin; (refine appsw (by rfl) 61 31 (.tmp 71) (.tmp 73) rfl w.heap.size 1 8 _ Try.underlying61 infoU64 rfl (by decide) (.slice (some ⟨g, 0, none⟩) j ic) _ j 1 (j + 1) _ _ rfl rfl HI6b.out HS6.out rfl (by simp [Value.oneCell']) rfl (by omega) (by omega) (by simp; omega) ?_); intro ad7 cp7 w7 ho7 hg7; have HO7 := hid ho7; have HG7 := hid hg7; have hs7 := (own_grown HI6b.out hg7 (by simp; omega)).size; have hss7 : w.heap.size ≤ w7.heap.size := (by simp at hs7; omega); have HQ7 := hid (owns_below (owns_kt (owns_below HQ6.out ((Below.refl w6.heap.size w6).alloc (Nat.le_refl _) (.cells #[.int .u64 ((j : Int) + 1)] 31))) (own_grown HI6b.out hg7 (by simp; omega)) (by decide)) ((Below.refl w7.heap.size w7).alloc (Nat.le_refl _) (.cells #[.slice A t.length C] 32))); have HS7 := hid (SrcC.lit w7 #[.slice A t.length C] 32 1 _ rfl); clear ho7 hg7 hs7)
            | (at_builtin; (refine appsw (by rfl) 60 32 (.tmp 75) (.tmp 77) rfl w.heap.size 1 24 _ Try.underlying60 infoBS rfl (by decide) (.slice qa j qc) _ j 1 (j + 1) _ _ rfl rfl HQ7.out HS7.out rfl (by simp [Value.oneCell']) rfl (by omega) (by omega) (by simp; omega) ?_); intro ad8 cp8 w8 ho8 hg8; have HO8 := hid ho8; have HG8 := hid hg8; clear ho8 hg8)
            | fail)
          have HF := hid (HSTEP.out _ _ _ _ _ _ HG7.out HO7.out HG8.out HO8.out)
          go_roundw
          case rel => exact ⟨j + 1, ad8, ad7, cp8, cp7, _, hlt, rfl, rfl, by go_num, HF.out.1, HF.out.2.1, HO8.out, HF.out.2.2.1, HF.out.2.2.2⟩
          case measure => simp [intOf]; omega
    · obtain rfl : j = M := by omega
      rcases HEX.out with hx | ⟨hx1, hx2⟩
      · have hnl : ¬ (j : Int) < (len0 : Int) := by omega
        clear hx hj hlt
        obtain ⟨kk, hkk⟩ : ∃ kk, kk = n % j := ⟨_, rfl⟩
        have hk1 : kk < j := by rw [hkk]; exact Nat.mod_lt _ (by omega)
        have ekk : (n : Int) % (j : Int) = (kk : Int) := by rw [hkk]; omega
        clear hkk
        obtain ⟨t, ht⟩ : ∃ t, ts[kk]? = some t := ⟨_, List.getElem?_eq_getElem (by rw [HTL.out]; omega)⟩
        have HG1 := hid (flt_get ts j kk t hk1 ht)
        obtain ⟨A, C, hwv, hwr⟩ := HW.out.2 kk _ HG1.out
        have HWV := hid hwv
        have HWR := hid hwr
        clear ht hwv hwr
        rcases owns_shape HI.out with ⟨e0, e1⟩ | ⟨g, cap, ev, hg1, hg2, _, _⟩
        · omega
        rcases owns_shape HQ.out with ⟨e0, e1⟩ | ⟨qg, qcap, ev2, hq1, hq2, _, _⟩
        · omega
        simp only [Value.slice.injEq] at ev ev2
        obtain ⟨rfl, _, rfl⟩ := ev
        obtain ⟨rfl, _, rfl⟩ := ev2
        have hidk := owns_cell HI.out kk (by rw [idsOf_len]; omega)
        rw [idsOf_get j kk (by omega)] at hidk
        have hwk := owns_cell HQ.out kk (by rw [HW.out.1, flt_len]; omega)
        rw [show WV.getD kk (.bool false) = .slice A t.length C by rw [List.getD_eq_getElem?_getD, HWV.out]; rfl] at hwk
        have hkj : (kk : Int) < (j : Int) := by omega
        have hjp : (0 : Int) < (j : Int) := by omega
        go_wp2_with fail
        first | rw [ekk] | skip
        clear ekk
        refine (echo_yes w.heap.size b kk (flt ts j) ⟨kk + 1, (kk : Int), t⟩ wr HA.out hsr HG1.out (by rw [flt_len]; show j < 100; omega) (by simp only [flt]; omega)).mono ?_
        rintro e w3 ⟨rfl, h3, k3⟩
        dsimp only at h3
        have H3 := hid h3
        have K3 := hid (HK.out.trans (k3.mono (fun x hx => by simp at hx; rcases hx with rfl | rfl <;> simp) (Nat.le_refl _)))
        have HQ3 := hid (owns_kt HQ.out k3 (by decide))
        have hwk3 := owns_cell HQ3.out kk (by rw [HW.out.1, flt_len]; omega)
        rw [show WV.getD kk (.bool false) = .slice A t.length C by rw [List.getD_eq_getElem?_getD, HWV.out]; rfl] at hwk3
        have hs3 := K3.out.size
        have HQ3b := hid (owns_below HQ3.out ((Below.refl w3.heap.size w3).alloc (Nat.le_refl _) (.cells #[.slice A t.length C] 32)))
        have HS3 := hid (SrcC.lit w3 #[.slice A t.length C] 32 1 _ rfl)
        clear h3 k3 hidk hwk
        go_wp2_with (at_builtin; (refine appsw (by rfl) 60 32 (.tmp 99) (.tmp 104) rfl w.heap.size 1 24 _ Try.underlying60 infoBS rfl (by decide) (.slice (some ⟨qg, 0, none⟩) j qc) _ j 1 (j + 1) _ _ rfl rfl HQ3b.out HS3.out rfl (by simp [Value.oneCell']) rfl (by omega) (by omega) (by simp; omega) ?_); intro ad8 cp8 w8 ho8 hg8; have HO8 := hid ho8; have HG8 := hid hg8; clear ho8 hg8)
        have hb3 : Below w3.heap.size w3 (w3.alloc (.cells #[.slice A t.length C] 32)) := (Below.refl _ _).alloc (Nat.le_refl _) _
        have k8 := own_grown HQ3b.out HG8.out (Nat.le_trans hs3 hb3.size)
        have H8 := hid ((H3.out.below hb3).kt k8 (by decide) (by decide) (by decide))
        have K8 := hid ((K3.out.trans (KT.of_below hb3 hs3)).trans (k8.mono (fun x hx => by simp at hx; subst hx; simp) (Nat.le_refl _)))
        have HW8 := hid (HW.out.push ⟨j + 1, (kk : Int), t⟩ A C HWR.out)
        obtain ⟨sE, hsE⟩ : ∃ sE, sE = (flt ts j).fly (kk : Int) t := ⟨_, rfl⟩
        have HLE := hid (show sE.l = (flt ts j).l ++ [⟨j + 1, (kk : Int), t⟩] by rw [hsE]; rfl)
        have HLL := hid (show sE.l.length = j + 1 by rw [HLE.out]; simp [flt_len])
        rw [← hsE] at H8
        rw [← HLE.out] at HW8
        obtain ⟨WE, hWE⟩ : ∃ WE, WE = WV ++ [.slice A t.length C] := ⟨_, rfl⟩
        rw [← hWE] at HW8 HO8
        rcases owns_shape HO8.out with ⟨e0, e1⟩ | ⟨eg, ecap, ev3, he1, he2, he3, he4⟩
        · omega
        simp only [Value.slice.injEq] at ev3
        obtain ⟨rfl, _, rfl⟩ := ev3
        clear hb3 k8 hsE hWE hwk3
        go_wp2_with fail
        go_loopw [108] (fun i wr => ∃ m : Nat, m ≤ j + 1 ∧ i = .int .i64 m ∧ AirAt wr w.heap.size b (arRest sE m) ∧ KT airTs w.heap.size w8 wr) (fun i _ => j + 1 - (intOf i).toNat)
        case atStart => exact ⟨0, Nat.zero_le _, rfl, H8.out, KT.refl _ _ _⟩
        case round =>
          obtain ⟨m, hm, rfl, hA9, hK9⟩ := hrel
          have HA9 := hid hA9
          have HK9 := hid hK9
          have HO9 := hid (owns_kt HO8.out hK9 (by decide))
          have hs9 : w.heap.size ≤ wr.heap.size := Nat.le_trans K8.out.size hK9.size
          clear hA9 hK9
          by_cases hml : m < j + 1
          · obtain ⟨x, hx⟩ : ∃ x, sE.l[m]? = some x := ⟨_, List.getElem?_eq_getElem (by rw [HLL.out]; exact hml)⟩
            obtain ⟨xa, xc, hx1, hx2⟩ := HW8.out.2 m x hx
            have hcm := owns_cell HO9.out m (by rw [HO9.out.1]; omega)
            rw [show WE.getD m (.bool false) = .slice xa x.t.length xc by rw [List.getD_eq_getElem?_getD, hx1]; rfl] at hcm
            have HX0 := hid (show (arRest sE m).l[0]? = some x by show (sE.l.drop m)[0]? = _; rw [List.getElem?_drop]; exact hx)
            have HX2 := hid hx2
            have hmj : (m : Int) < (j : Int) + 1 := by omega
            clear hx hx1 hx2
            go_wp2_with fail
            refine (oldest_yes w.heap.size b (arRest sE m) x wr HA9.out HX0.out).mono ?_
            rintro e w' ⟨rfl, rfl⟩
            go_wp2_with fail
            refine (land_yes w.heap.size b 0 (arRest sE m) x wr HA9.out hs9 HX0.out).mono ?_
            rintro e w4 ⟨va, vc, rfl, ho4, h4, k4⟩
            rw [rest_fin] at h4
            have HO4 := hid ho4
            have H4 := hid h4
            have K4 := hid (HK9.out.trans k4)
            have hs4 := k4.size
            clear ho4 h4 k4
            go_wp2_with fail
            obtain ⟨w5, hw5⟩ : ∃ w5, w5 = w4.alloc (.cells #[.int .i64 x.to, .slice va x.t.length vc] 34) := ⟨_, rfl⟩
            have hb5 : Below w4.heap.size w4 w5 := by rw [hw5]; exact (Below.refl _ _).alloc (Nat.le_refl _) _
            first | rw [← hw5] | skip
            have K5 := hid (K4.out.trans (KT.of_below hb5 (by omega)))
            refine (same_any _ _ x.t x.t w5 (HO4.out.rd.below hb5) (HX2.out.below (K8.out.below.trans K5.out.below))).mono ?_
            rintro e w' ⟨rfl, rfl⟩
            rw [show (x.t == x.t) = true by simp]
            have H5 := hid (H4.out.below hb5)
            clear hb5 hw5
            go_wp2_with fail
            go_roundw
            case rel => exact ⟨m + 1, hml, by go_num, H5.out, K5.out⟩
            case measure => simp [intOf]; omega
          · obtain rfl : m = j + 1 := by omega
            go_wp2_with fail
            refine (airlen_any w.heap.size b _ wr HA9.out).mono ?_
            rintro e w' ⟨rfl, rfl⟩
            rw [show (arRest sE (j + 1)).l.length = 0 by show (sE.l.drop (j + 1)).length = 0; rw [List.length_drop, HLL.out]; omega]
            go_wp2_with fail
            go_ret
            exact ⟨rfl, K8.out.below.trans HK9.out.below⟩
      · have hj40 : (40 : Int) ≤ (j : Int) := by omega
        have hjl : (j : Int) < (len0 : Int) := by omega
        obtain ⟨t0, ht0⟩ : ∃ t, ts[j]? = some t := ⟨_, List.getElem?_eq_getElem (by rw [HTL.out]; omega)⟩
        obtain ⟨A0, L0, C0, hc0, _, _, l20, l30, _, _⟩ := matrow_at (HR.out j t0 ht0)
        have hcell0 := (HK.out.below.cell (p := ⟨mb, off + j, none⟩) hmb).trans hc0
        clear hc0 ht0 hx1 hx2 hj hlt
        obtain ⟨kk, hkk⟩ : ∃ kk, kk = n % j := ⟨_, rfl⟩
        have hk1 : kk < j := by rw [hkk]; exact Nat.mod_lt _ (by omega)
        have ekk : (n : Int) % (j : Int) = (kk : Int) := by rw [hkk]; omega
        clear hkk
        obtain ⟨t, ht⟩ : ∃ t, ts[kk]? = some t := ⟨_, List.getElem?_eq_getElem (by rw [HTL.out]; omega)⟩
        have HG1 := hid (flt_get ts j kk t hk1 ht)
        obtain ⟨A, C, hwv, hwr⟩ := HW.out.2 kk _ HG1.out
        have HWV := hid hwv
        have HWR := hid hwr
        clear ht hwv hwr
        rcases owns_shape HI.out with ⟨e0, e1⟩ | ⟨g, cap, ev, hg1, hg2, _, _⟩
        · omega
        rcases owns_shape HQ.out with ⟨e0, e1⟩ | ⟨qg, qcap, ev2, hq1, hq2, _, _⟩
        · omega
        simp only [Value.slice.injEq] at ev ev2
        obtain ⟨rfl, _, rfl⟩ := ev
        obtain ⟨rfl, _, rfl⟩ := ev2
        have hidk := owns_cell HI.out kk (by rw [idsOf_len]; omega)
        rw [idsOf_get j kk (by omega)] at hidk
        have hwk := owns_cell HQ.out kk (by rw [HW.out.1, flt_len]; omega)
        rw [show WV.getD kk (.bool false) = .slice A t.length C by rw [List.getD_eq_getElem?_getD, HWV.out]; rfl] at hwk
        have hkj : (kk : Int) < (j : Int) := by omega
        have hjp : (0 : Int) < (j : Int) := by omega
        go_wp2_with fail
        first | rw [ekk] | skip
        clear ekk
        refine (echo_yes w.heap.size b kk (flt ts j) ⟨kk + 1, (kk : Int), t⟩ wr HA.out hsr HG1.out (by rw [flt_len]; show j < 100; omega) (by simp only [flt]; omega)).mono ?_
        rintro e w3 ⟨rfl, h3, k3⟩
        dsimp only at h3
        have H3 := hid h3
        have K3 := hid (HK.out.trans (k3.mono (fun x hx => by simp at hx; rcases hx with rfl | rfl <;> simp) (Nat.le_refl _)))
        have HQ3 := hid (owns_kt HQ.out k3 (by decide))
        have hwk3 := owns_cell HQ3.out kk (by rw [HW.out.1, flt_len]; omega)
        rw [show WV.getD kk (.bool false) = .slice A t.length C by rw [List.getD_eq_getElem?_getD, HWV.out]; rfl] at hwk3
        have hs3 := K3.out.size
        have HQ3b := hid (owns_below HQ3.out ((Below.refl w3.heap.size w3).alloc (Nat.le_refl _) (.cells #[.slice A t.length C] 32)))
        have HS3 := hid (SrcC.lit w3 #[.slice A t.length C] 32 1 _ rfl)
        clear h3 k3 hidk hwk
        go_wp2_with (at_builtin; (refine appsw (by rfl) 60 32 (.tmp 99) (.tmp 104) rfl w.heap.size 1 24 _ Try.underlying60 infoBS rfl (by decide) (.slice (some ⟨qg, 0, none⟩) j qc) _ j 1 (j + 1) _ _ rfl rfl HQ3b.out HS3.out rfl (by simp [Value.oneCell']) rfl (by omega) (by omega) (by simp; omega) ?_); intro ad8 cp8 w8 ho8 hg8; have HO8 := hid ho8; have HG8 := hid hg8; clear ho8 hg8)
        have hb3 : Below w3.heap.size w3 (w3.alloc (.cells #[.slice A t.length C] 32)) := (Below.refl _ _).alloc (Nat.le_refl _) _
        have k8 := own_grown HQ3b.out HG8.out (Nat.le_trans hs3 hb3.size)
        have H8 := hid ((H3.out.below hb3).kt k8 (by decide) (by decide) (by decide))
        have K8 := hid ((K3.out.trans (KT.of_below hb3 hs3)).trans (k8.mono (fun x hx => by simp at hx; subst hx; simp) (Nat.le_refl _)))
        have HW8 := hid (HW.out.push ⟨j + 1, (kk : Int), t⟩ A C HWR.out)
        obtain ⟨sE, hsE⟩ : ∃ sE, sE = (flt ts j).fly (kk : Int) t := ⟨_, rfl⟩
        have HLE := hid (show sE.l = (flt ts j).l ++ [⟨j + 1, (kk : Int), t⟩] by rw [hsE]; rfl)
        have HLL := hid (show sE.l.length = j + 1 by rw [HLE.out]; simp [flt_len])
        rw [← hsE] at H8
        rw [← HLE.out] at HW8
        obtain ⟨WE, hWE⟩ : ∃ WE, WE = WV ++ [.slice A t.length C] := ⟨_, rfl⟩
        rw [← hWE] at HW8 HO8
        rcases owns_shape HO8.out with ⟨e0, e1⟩ | ⟨eg, ecap, ev3, he1, he2, he3, he4⟩
        · omega
        simp only [Value.slice.injEq] at ev3
        obtain ⟨rfl, _, rfl⟩ := ev3
        clear hb3 k8 hsE hWE hwk3
        go_wp2_with fail
        go_loopw [108] (fun i wr => ∃ m : Nat, m ≤ j + 1 ∧ i = .int .i64 m ∧ AirAt wr w.heap.size b (arRest sE m) ∧ KT airTs w.heap.size w8 wr) (fun i _ => j + 1 - (intOf i).toNat)
        case atStart => exact ⟨0, Nat.zero_le _, rfl, H8.out, KT.refl _ _ _⟩
        case round =>
          obtain ⟨m, hm, rfl, hA9, hK9⟩ := hrel
          have HA9 := hid hA9
          have HK9 := hid hK9
          have HO9 := hid (owns_kt HO8.out hK9 (by decide))
          have hs9 : w.heap.size ≤ wr.heap.size := Nat.le_trans K8.out.size hK9.size
          clear hA9 hK9
          by_cases hml : m < j + 1
          · obtain ⟨x, hx⟩ : ∃ x, sE.l[m]? = some x := ⟨_, List.getElem?_eq_getElem (by rw [HLL.out]; exact hml)⟩
            obtain ⟨xa, xc, hx1, hx2⟩ := HW8.out.2 m x hx
            have hcm := owns_cell HO9.out m (by rw [HO9.out.1]; omega)
            rw [show WE.getD m (.bool false) = .slice xa x.t.length xc by rw [List.getD_eq_getElem?_getD, hx1]; rfl] at hcm
            have HX0 := hid (show (arRest sE m).l[0]? = some x by show (sE.l.drop m)[0]? = _; rw [List.getElem?_drop]; exact hx)
            have HX2 := hid hx2
            have hmj : (m : Int) < (j : Int) + 1 := by omega
            clear hx hx1 hx2
            go_wp2_with fail
            refine (oldest_yes w.heap.size b (arRest sE m) x wr HA9.out HX0.out).mono ?_
            rintro e w' ⟨rfl, rfl⟩
            go_wp2_with fail
            refine (land_yes w.heap.size b 0 (arRest sE m) x wr HA9.out hs9 HX0.out).mono ?_
            rintro e w4 ⟨va, vc, rfl, ho4, h4, k4⟩
            rw [rest_fin] at h4
            have HO4 := hid ho4
            have H4 := hid h4
            have K4 := hid (HK9.out.trans k4)
            have hs4 := k4.size
            clear ho4 h4 k4
            go_wp2_with fail
            obtain ⟨w5, hw5⟩ : ∃ w5, w5 = w4.alloc (.cells #[.int .i64 x.to, .slice va x.t.length vc] 34) := ⟨_, rfl⟩
            have hb5 : Below w4.heap.size w4 w5 := by rw [hw5]; exact (Below.refl _ _).alloc (Nat.le_refl _) _
            first | rw [← hw5] | skip
            have K5 := hid (K4.out.trans (KT.of_below hb5 (by omega)))
            refine (same_any _ _ x.t x.t w5 (HO4.out.rd.below hb5) (HX2.out.below (K8.out.below.trans K5.out.below))).mono ?_
            rintro e w' ⟨rfl, rfl⟩
            rw [show (x.t == x.t) = true by simp]
            have H5 := hid (H4.out.below hb5)
            clear hb5 hw5
            go_wp2_with fail
            go_roundw
            case rel => exact ⟨m + 1, hml, by go_num, H5.out, K5.out⟩
            case measure => simp [intOf]; omega
          · obtain rfl : m = j + 1 := by omega
            go_wp2_with fail
            refine (airlen_any w.heap.size b _ wr HA9.out).mono ?_
            rintro e w' ⟨rfl, rfl⟩
            rw [show (arRest sE (j + 1)).l.length = 0 by show (sE.l.drop (j + 1)).length = 0; rw [List.length_drop, HLL.out]; omega]
            go_wp2_with fail
            go_ret
            exact ⟨rfl, K8.out.below.trans HK9.out.below⟩

set_option maxHeartbeats 1000000 in
theorem walk (a0 : Option Addr) (len0 cap0 : Nat) (a1 : Int) (w : World) (w0 : IsMat w a0 len0 cap0) (w1 : (Lit.int .u8 a1).wf = true) :
    Calls Try.prog 4 #[.slice a0 len0 cap0, .int .u8 a1] w fun e w' => e = .returned (.bool true) ∧ Below w.heap.size w w' := by
  obtain ⟨n, rfl⟩ := Int.eq_ofNat_of_zero_le (show 0 ≤ a1 by have := bounds_u8 w1; omega)
  have hn2 : (n : Int) < 256 := by have := bounds_u8 w1; omega
  have hlb := w0.bounds
  by_cases hz : len0 = 0
  · subst hz
    exact order_none a0 cap0 n w hn2
  · obtain ⟨mb, off, rfl, hmb, ts, htl, hrows⟩ := w0.rows (by omega) 40
    exact order_some mb off len0 cap0 (min len0 40) n ts w hn2 hmb htl hrows hlb.1 hlb.2 (by omega) (by omega) (by omega) (by omega)

/-! ### THE ROW's STEP -/
set_option maxRecDepth 100000 in
theorem lifted (os : Os) (started : os.Started) (H : Type) (enc : TypeId × Value → H) :
    ReturnsInHanded {} Try.checked os 4 .any (Rows.airOrderSpec.pre6 enc Try.prog Try.f4 Rows.airOrderRow.domain false) (Rows.airOrderSpec.post enc Try.prog Try.f4 false true false false) := by
  refine returnsInHanded_of_change (C := Try.checked) own started (by kernel_rfl) Try.func4
    (ChangeSpec.witness6 (enc := enc) (C := Try.checked) false ⟨#[], #[.slice none 0 0, .int .u8 0], []⟩ 8 (by kernel_rfl) (by kernel_rfl) (by kernel_rfl) (by kernel_rfl)) ?_
  intro W base args ds gs before hval0 hW hcnd _
  have hval : ∀ (j : Nat) t v, Try.f4.params[j]? = some t → args[j]? = some v → Value.okWide Try.prog W .any base t v := hval0
  have hW' := hW
  obtain ⟨p, q, hA0, hV, rfl, hfz, hnd⟩ := hW
  have hA : DataW.TrodAll enc Try.prog W 0 (fun _ => true) true Try.f4.params.toList args.toList ds p := hA0
  rw [Try.params4] at hA hval
  obtain ⟨v0, vs0, d0, ds0, p0, q0, hargs, rfl, rfl, h0, r0⟩ := trodAll_cons hA
  obtain ⟨v1, vs1, d1, ds1, p1, q1, rfl, rfl, rfl, h1, r1⟩ := trodAll_cons r0
  obtain ⟨rfl, rfl, rfl⟩ := trodAll_nil r1
  obtain rfl : args = #[v0, v1] := by cases args; simp_all
  obtain ⟨rfl, rfl⟩ := trodVars_none hV
  have k0 := h0
  have lt0 : ∀ x ∈ p0, x.block < W.heap.size := by obtain ⟨m, hm⟩ := k0; exact DataW.trod_lt m _ _ _ hm
  have k1 := h1
  have lt1 : ∀ x ∈ p1, x.block < W.heap.size := by obtain ⟨m, hm⟩ := k1; exact DataW.trod_lt m _ _ _ hm
  obtain ⟨a0, len0, cap0, rfl⟩ := okWide_slice Try.underlying60 (hval 0 60 v0 rfl rfl)
  have w0 : IsMat W a0 len0 cap0 := isMat_of h0
  obtain ⟨a1, rfl, rfl, rfl, w1⟩ := open_int Try.underlying5 (hval 1 5 v1 rfl rfl) h1
  clear hA0 hval0
  refine (walk a0 len0 cap0 a1 W w0 w1).mono fun e W' ⟨he, bel⟩ => ?_
  subst he
  exact ⟨_, rfl, _, _, _, [], _, [], hW', trodAll_mk1 (shut_bool Try.underlying4 _), (trodAll_cons_mk (Below.trod laidOut (by kernel_rfl) (of_decide_eq_true (by kernel_rfl)) k0 bel lt0) (trodAll_cons_mk (Below.trod laidOut (by kernel_rfl) (of_decide_eq_true (by kernel_rfl)) k1 bel lt1) trodAll_mk0)), rfl, bel.frame _, fun h => by cases h⟩

theorem over : Rows.airOrderRow.holds Try.pinned (OpenSpec.ofChange Rows.airOrderSpec) :=
  OpenClaim.holds_of_wide 4 Try.f4 rfl rfl rfl rfl rfl rfl rfl ⟨rfl, rfl, rfl, rfl, rfl⟩ rfl rfl rfl rfl rfl (by kernel_rfl) Try.func4 (by kernel_rfl)
    (of_decide_eq_true (by kernel_rfl)) (by unfold Func.isWrapper; first | (rw [if_pos (by decide +kernel)]; kernel_rfl) | (rw [if_neg (by decide +kernel)]; exact ⟨rfl, rfl⟩))
    (fun os started H enc _ => lifted os started H enc)

/-- THE STATEMENT -/
theorem airOrder_holds : Rows.AirOrderSaid := over
#print axioms airOrder_holds
end Go.Proofs.Ytecnopopmonlpaa.airOrder
