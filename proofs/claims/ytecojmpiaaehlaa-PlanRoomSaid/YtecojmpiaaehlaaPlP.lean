/-
  Contracts of plan: soonest, pick.
-/
import Derived.Test.YtecojmpiaaehlaaPlV
import Derived.Test.YtecojmpiaaehlaaPlC
import Derived.Test.YtecojmpiaaehlaaAppR
import Derived.Laws.MakeOwn
import Derived.Laws.Rows
import Derived.Laws.Tables
import Derived.Deep.MidRow
import Derived.Deep.RegionLaw
namespace Go.Proofs.Ytecojmpiaaehlaa
open Go.RowKit Go.Shelf
set_option linter.unusedVariables false

def rowK (l : List Nat) (k : Int) : Option Nat := if k < 1 then none else rowT l k.toNat

theorem RdV.at {w : World} {a : Option Addr} {n cap : Nat} {xs : List Value} (h : RdV w (.slice a n cap) xs) (k : Nat) (x : Value) (hk : xs[k]? = some x) : n = xs.length ∧ ∃ b off, a = some ⟨b, off, none⟩ ∧ b < w.heap.size ∧ w.cell? ⟨b, off + k, none⟩ = some x := by
  rcases h with ⟨_, rfl⟩ | ⟨b, off, cap', e, h1, h2, h3, h4⟩
  · simp at hk
  · simp only [Value.slice.injEq] at e
    obtain ⟨rfl, rfl, rfl⟩ := e
    exact ⟨rfl, b, off, rfl, h3, h4 k x hk⟩

theorem le_tr' (a b c : Nat) (h1 : decide (a ≤ b) = true) (h2 : decide (b ≤ c) = true) : decide (a ≤ c) = true := by simp at *; omega
theorem le_to' (a b : Nat) : (decide (a ≤ b) || decide (b ≤ a)) = true := by simp; omega
theorem cnt_perm {l m : List Nat} (h : l.Perm m) (t : Nat) : cnt l t = cnt m t := (h.filter _).length_eq

/-- In order the k-th tells when k cells are free. -/
theorem sorted_T {l : List Nat} {q : Nat} (h : q < l.length) : rowT l (q + 1) = some ((l.mergeSort fun x y => decide (x ≤ y)).getD q 0) := by
  obtain ⟨s, hs⟩ : ∃ s, s = l.mergeSort fun x y => decide (x ≤ y) := ⟨_, rfl⟩
  have hp : s.Perm l := by rw [hs]; exact List.mergeSort_perm l _
  have hpw : s.Pairwise fun a b => decide (a ≤ b) = true := by rw [hs]; exact List.pairwise_mergeSort le_tr' le_to' l
  rw [← hs]
  clear hs
  have hl : s.length = l.length := hp.length_eq
  have hq : q < s.length := by omega
  obtain ⟨T, hT⟩ : ∃ T, T = s.getD q 0 := ⟨_, rfl⟩
  have hTq : s[q] = T := by rw [hT, List.getD_eq_getElem?_getD, List.getElem?_eq_getElem hq]; rfl
  rw [← hT]
  have hsplit : s = s.take q ++ T :: s.drop (q + 1) := by
    rw [← hTq, ← List.drop_eq_getElem_cons hq, List.take_append_drop]
  have hlow : ∀ c ∈ s.take q, c ≤ T := by
    intro c hc
    rw [hsplit, List.pairwise_append] at hpw
    have := hpw.2.2 c hc T (by simp)
    simpa using this
  have hhigh : ∀ c ∈ s.drop (q + 1), T ≤ c := by
    intro c hc
    rw [hsplit, List.pairwise_append, List.pairwise_cons] at hpw
    have := hpw.2.1.1 c hc
    simpa using this
  have hcnt : ∀ t, cnt s t = cnt (s.take q) t + ((if T ≤ t then 1 else 0) + cnt (s.drop (q + 1)) t) := by
    intro t
    conv => lhs; rw [hsplit]
    rw [← cnt_cons]
    unfold cnt
    rw [List.filter_append, List.length_append]
  refine rowT_some.2 ⟨⟨hp.mem_iff.1 (by rw [← hTq]; exact List.getElem_mem _), ?_⟩, fun c hc hk => ?_⟩
  · rw [← cnt_perm hp, hcnt, if_pos (Nat.le_refl _)]
    have : cnt (s.take q) T = q := by
      unfold cnt
      rw [List.filter_eq_self.2 fun c hc => by simpa using hlow c hc, List.length_take]
      omega
    omega
  · rcases Nat.lt_or_ge c T with h1 | h1
    · exfalso
      rw [← cnt_perm hp, hcnt, if_neg (by omega)] at hk
      have h2 : cnt (s.drop (q + 1)) c = 0 := by
        unfold cnt
        rw [List.filter_eq_nil_iff.2 fun d hd => by have := hhigh d hd; simp; omega]
        rfl
      have h3 := cnt_len (s.take q) c
      rw [List.length_take] at h3
      omega
    · exact h1

set_option maxHeartbeats 2000000 in
theorem soonest_any (w : World) (v : Value) (l : List Nat) (k : Int) (hr : RdV w v (l.map iv)) (hl : l.length ≤ 1000) :
    Calls Try.prog 33 #[v, .int .i64 k] w fun e w' => e = .returned (.tuple #[.int .i64 ((rowK l k).getD 0 : Nat), .bool (rowK l k).isSome]) ∧ Below w.heap.size w w' := by
  obtain ⟨a, cap, rfl, hc1, hc2⟩ := hr.len
  rw [List.length_map] at hc1 hr
  have HR := hid hr
  clear hr
  rw [List.length_map]
  by_cases h1 : k < 1
  · have HE := hid (show rowK l k = none by unfold rowK; rw [if_pos h1])
    have d1 : decide (k < 1) = true := by simpa using h1
    clear h1
    go_enter Try.func33, Try.ntmps33
    go_wp2_with fail
    go_ret2
    exact ⟨by rw [HE.out]; rfl, Below.refl _ _⟩
  · by_cases h2 : (l.length : Int) < k
    · have HE := hid (show rowK l k = none by
        unfold rowK
        rw [if_neg h1, rowT_none]
        intro c _
        have := cnt_len l c
        omega)
      have d1 : decide (k < 1) = false := by simpa using h1
      have d2 : decide ((l.length : Int) < k) = true := by simpa using h2
      have d3 : decide (k > (l.length : Int)) = true := by simpa using h2
      clear h1 h2
      go_enter Try.func33, Try.ntmps33
      go_wp2_with fail
      go_ret2
      exact ⟨by rw [HE.out]; rfl, Below.refl _ _⟩
    · obtain ⟨q, rfl⟩ : ∃ q : Nat, k = (q : Int) + 1 := ⟨(k - 1).toNat, by omega⟩
      have hq : q < l.length := by omega
      have HE := hid (show rowK l ((q : Int) + 1) = some ((l.mergeSort fun x y => decide (x ≤ y)).getD q 0) by
        unfold rowK
        rw [if_neg h1, show ((q : Int) + 1).toNat = q + 1 by omega]
        exact sorted_T hq)
      have d1 : decide ((q : Int) + 1 < 1) = false := by simpa using h1
      have d2 : decide ((l.length : Int) < (q : Int) + 1) = false := by simpa using h2
      have d3 : decide ((q : Int) + 1 > (l.length : Int)) = false := by simpa using h2
      have hs : (l.mergeSort fun x y => decide (x ≤ y))[q]? = some ((l.mergeSort fun x y => decide (x ≤ y)).getD q 0) := by
        rw [List.getD_eq_getElem?_getD, List.getElem?_eq_getElem (by rw [List.length_mergeSort]; exact hq)]; rfl
      have HS := hid hs
      have hqi : (q : Int) < (l.length : Int) := by omega
      have hql : (q : Int) < 1000 := by omega
      clear h1 h2 hs
      go_enter Try.func33, Try.ntmps33
      go_wp2_with fail
      refine (values_any w a l.length cap).mono ?_
      rintro e w' ⟨rfl, rfl⟩
      go_wp2_with fail
      refine (sorted_values w (.slice a l.length cap) l HR.out hl).mono ?_
      rintro e w' ⟨u, rfl, ho, hb⟩
      obtain ⟨ua, uc, rfl, hu1, hu2⟩ := owns_slice ho
      obtain ⟨-, g, off, rfl, hgl, hcell⟩ := (RdV.of_own ho).at q (iv _) (by rw [List.getElem?_map, HS.out]; rfl)
      have HB := hid hb
      clear ho hb
      generalize (l.mergeSort fun x y => decide (x ≤ y)).getD q 0 = T at *
      have hcell2 : w'.cell? ⟨g, off + q, none⟩ = some (.int .i64 (T : Nat)) := hcell
      clear hcell
      go_wp2_with fail
      go_ret2
      exact ⟨by rw [HE.out]; rfl, HB.out⟩

theorem getD_q {l : List Nat} {q : Nat} (h : q < l.length) : l[q]? = some (l.getD q 0) := by
  rw [List.getD_eq_getElem?_getD, List.getElem?_eq_getElem h]; rfl
theorem lessTo_le (l : List Nat) (t q : Nat) : lessC (l.take q) t ≤ lessC l t := by
  conv => rhs; rw [← List.take_append_drop q l]
  rw [lessC_append]; omega
theorem selTo_le (l : List Nat) (k t q : Nat) : (selTo l k t q).length ≤ q := by
  unfold selTo
  exact Nat.le_trans (List.length_filter_le _ _) (by simp)

set_option maxHeartbeats 4000000 in
theorem pick_any (w : World) (v : Value) (l : List Nat) (k t : Nat) (hr : RdV w v (l.map iv)) (hl : l.length ≤ 1000) (hk : 1 ≤ k) (hk2 : k ≤ 1000) (hT : rowT l k = some t) :
    Calls Try.prog 34 #[v, .int .i64 k, .int .i64 t] w fun e w' => ∃ u, e = .returned u ∧ w'.ownsRow w.heap.size 3 1 u (sel l k t).length ((sel l k t).map iv) ∧ Below w.heap.size w w' := by
  obtain ⟨a, cap, rfl, hc1, hc2⟩ := hr.len
  rw [List.length_map] at hc1 hr
  have HR := hid hr
  have hless := less_lt hk hT
  have HLS := hid hless
  clear hr hT
  rw [List.length_map]
  go_enter Try.func34, Try.ntmps34
  go_wp2_with fail
  go_loop [7, 16] (fun lf i => ∃ q : Nat, q ≤ l.length ∧ i = .int .i64 q ∧ ∃ z : Nat, lf = .int .i64 z ∧ z + lessC (l.take q) t = k) (fun _ i => l.length - (intOf i).toNat)
  case atStart => exact ⟨0, Nat.zero_le _, rfl, k, rfl, by simp [lessC]⟩
  case round =>
    obtain ⟨q, hq, rfl, z, rfl, hz⟩ := hrel
    by_cases hlt : q < l.length
    · obtain ⟨-, g, off, rfl, hgl, hcell⟩ := HR.out.at q (iv (l.getD q 0)) (by rw [List.getElem?_map, getD_q hlt]; rfl)
      have hcell2 : w.cell? ⟨g, off + q, none⟩ = some (.int .i64 (l.getD q 0 : Nat)) := hcell
      have hll := lessTo_le l t (q + 1)
      have hls := lessTo_succ l t hlt
      have HZ := hid hz
      have HLL := hid hll
      have HLE := hid hls
      have hzk : (z : Int) ≤ 1000 := by omega
      have hqi : (q : Int) < (l.length : Int) := by omega
      clear hcell hz hll hls hless
      generalize l.getD q 0 = x at *
      by_cases hxt : x < t
      · have d1 : decide ((x : Int) < (t : Int)) = true := by simpa using hxt
        have hz1 : 1 ≤ z := by
          have h1 := HZ.out; have h2 := HLL.out; have h3 := HLE.out; have h4 := HLS.out
          rw [if_pos hxt] at h3
          omega
        obtain ⟨y, rfl⟩ : ∃ y, z = y + 1 := ⟨z - 1, by omega⟩
        clear hz1
        go_wp2
        go_round
        case rel => exact ⟨q + 1, hlt, by go_num, y, by go_num, by
          have h1 := HZ.out; have h3 := HLE.out
          rw [if_pos hxt] at h3
          omega⟩
        case measure => simp [intOf]; omega
      · have d1 : decide ((x : Int) < (t : Int)) = false := by simpa using hxt
        go_wp2
        go_round
        case rel => exact ⟨q + 1, hlt, by go_num, z, rfl, by
          have h1 := HZ.out; have h3 := HLE.out
          rw [if_neg hxt] at h3
          omega⟩
        case measure => simp [intOf]; omega
    · have e : q = l.length := by omega
      rw [e, List.take_length] at hz
      obtain ⟨d, hd⟩ : ∃ d, d = k - lessC l t := ⟨_, rfl⟩
      have ez : z = d := by omega
      have hdk : d ≤ 1000 := by omega
      have HD := hid hd
      have hqi : ¬ (q : Int) < (l.length : Int) := by omega
      subst ez
      clear hz hd hless e hlt
      go_wp2_with fail
      go_loopw [7, 10, 28] (fun lf nv i wr => ∃ q : Nat, q ≤ l.length ∧ i = .int .i64 q ∧ (∃ y : Nat, lf = .int .i64 y ∧ y = z - eqTo l t q) ∧ wr.ownsRow w.heap.size 3 1 nv (selTo l k t q).length ((selTo l k t q).map iv) ∧ Below w.heap.size w wr) (fun _ _ i _ => l.length - (intOf i).toNat)
      case atStart => exact ⟨0, Nat.zero_le _, rfl, ⟨z, rfl, by simp [eqTo, eqC]⟩, World.ownsRow_nil _ _ _ _, Below.refl _ _⟩
      case round =>
        obtain ⟨q, hq, rfl, ⟨y, rfl, hy⟩, hv, hB⟩ := hrel
        have HV := hid hv
        have HB := hid hB
        have hs0 := hB.size
        obtain ⟨av, cv, rfl, hcv1, hcv2⟩ := owns_slice hv
        have hol := selTo_le l k t q
        clear hv
        by_cases hlt : q < l.length
        · obtain ⟨-, g, off, rfl, hgl, hcell⟩ := (HR.out.all hB).at q (iv (l.getD q 0)) (by rw [List.getElem?_map, getD_q hlt]; rfl)
          have hcell2 : wr.cell? ⟨g, off + q, none⟩ = some (.int .i64 (l.getD q 0 : Nat)) := hcell
          have hqi : (q : Int) < (l.length : Int) := by omega
          have HSU := hid (selTo_succ l k t q)
          have HEQ := hid (eqTo_succ l t hlt)
          have hpk : pickB l k t q = (decide (l.getD q 0 < t) || (l.getD q 0 == t && decide (eqTo l t q < z))) := by unfold pickB; rw [← HD.out]
          have HPK := hid hpk
          have HYY := hid hy
          have hyk : (y : Int) ≤ 1000 := by omega
          clear hcell hpk hB hy
          have hof := hid (owns_below HV.out ((Below.refl _ _).alloc (Nat.le_refl _) (.cells #[.int .i64 (q : Nat)] 3)))
          have hsrc := hid (SrcC.lit wr #[.int .i64 (q : Nat)] 3 1 [iv q] rfl)
          generalize hol' : (selTo l k t q).length = ol at *
          have HOL := hid hol'
          generalize l.getD q 0 = x at *
          clear hol'
          by_cases hxt : x < t
          · have d1 : decide ((x : Int) < (t : Int)) = true := by simpa using hxt
            have HXT := hid hxt
            have HS2 := hid (show selTo l k t (q + 1) = selTo l k t q ++ [q] by rw [HSU.out, HPK.out, if_pos (by simp [hxt])])
            clear hxt
            go_wp2_with (at_builtin; (refine appsw (by rfl) 25 3 (.tmp 37) (.tmp 39) rfl w.heap.size 1 8 _ Try.underlying25 Try.infoInt rfl (by decide) _ _ ol 1 (ol + 1) _ _ rfl rfl hof.out hsrc.out rfl (by intro y hy; rw [List.mem_singleton] at hy; subst hy; rfl) rfl (by omega) (by omega) (by simp; omega) ?_); intro ad9 cp9 wA hoA hgA; have HOA := hid hoA; have HGA := hid hgA; clear hoA hgA)
            have hbA : Below w.heap.size w wA := (HB.out.alloc (by omega) (.cells #[.int .i64 (q : Nat)] 3)).grown HGA.out (by simp; omega) (fun g hg => (World.ownsRow.lt HV.out g hg).1)
            have HBA := hid hbA
            clear hbA
            go_wp2
            go_roundw
            case rel => exact ⟨q + 1, hlt, by go_num, ⟨y, rfl, by
              have h1 := HYY.out; have h2 := HEQ.out; have h3 := HXT.out
              rw [if_neg (by omega)] at h2; omega⟩, by rw [HS2.out, List.length_append, HOL.out, List.map_append]; exact HOA.out, HBA.out⟩
            case measure => simp [intOf]; omega
          · have d1 : decide ((x : Int) < (t : Int)) = false := by simpa using hxt
            have HXT := hid hxt
            by_cases hxe : x = t
            · have d2 : ((x : Int) == (t : Int)) = true := by simp; omega
              have HXE := hid hxe
              by_cases hy0 : 0 < y
              · have HY0 := hid hy0
                obtain ⟨y, rfl⟩ : ∃ y', y = y' + 1 := ⟨y - 1, by omega⟩
                have d3 : decide (((y + 1 : Nat) : Int) > 0) = true := decide_eq_true (by omega)
                have d4 : decide ((0 : Int) < (y : Int) + 1) = true := decide_eq_true (by omega)
                have HS2 := hid (show selTo l k t (q + 1) = selTo l k t q ++ [q] by
                  rw [HSU.out, HPK.out, if_pos]
                  have h1 := HYY.out
                  simp only [Bool.or_eq_true, decide_eq_true_eq, Bool.and_eq_true, beq_iff_eq]
                  exact .inr ⟨hxe, by omega⟩)
                subst hxe
                clear hxt hy0
                go_wp2_with (at_builtin; (refine appsw (by rfl) 25 3 (.tmp 51) (.tmp 53) rfl w.heap.size 1 8 _ Try.underlying25 Try.infoInt rfl (by decide) _ _ ol 1 (ol + 1) _ _ rfl rfl hof.out hsrc.out rfl (by intro y hy; rw [List.mem_singleton] at hy; subst hy; rfl) rfl (by omega) (by omega) (by simp; omega) ?_); intro ad9 cp9 wA hoA hgA; have HOA := hid hoA; have HGA := hid hgA; clear hoA hgA)
                have hbA : Below w.heap.size w wA := (HB.out.alloc (by omega) (.cells #[.int .i64 (q : Nat)] 3)).grown HGA.out (by simp; omega) (fun g hg => (World.ownsRow.lt HV.out g hg).1)
                have HBA := hid hbA
                clear hbA
                go_wp2
                go_roundw
                case rel => exact ⟨q + 1, hlt, by go_num, ⟨y, by go_num, by
                  have h1 := HYY.out; have h2 := HEQ.out
                  rw [if_pos rfl] at h2; omega⟩, by rw [HS2.out, List.length_append, HOL.out, List.map_append]; exact HOA.out, HBA.out⟩
                case measure => simp [intOf]; omega
              · obtain rfl : y = 0 := by omega
                have HS2 := hid (show selTo l k t (q + 1) = selTo l k t q by
                  rw [HSU.out, HPK.out, if_neg]
                  have h1 := HYY.out
                  simp only [Bool.or_eq_true, decide_eq_true_eq, Bool.and_eq_true, beq_iff_eq]
                  omega)
                subst hxe
                clear hxt hy0
                go_wp2
                go_roundw
                case rel => exact ⟨q + 1, hlt, by go_num, ⟨0, rfl, by
                  have h1 := HYY.out; have h2 := HEQ.out
                  rw [if_pos rfl] at h2; omega⟩, by rw [HS2.out, HOL.out]; exact HV.out, HB.out⟩
                case measure => simp [intOf]; omega
            · have d2 : ((x : Int) == (t : Int)) = false := by simp; omega
              have HXE := hid hxe
              have HS2 := hid (show selTo l k t (q + 1) = selTo l k t q by
                rw [HSU.out, HPK.out, if_neg]
                simp only [Bool.or_eq_true, decide_eq_true_eq, Bool.and_eq_true, beq_iff_eq]
                omega)
              have d5 : (x == t) = false := by simpa using hxe
              have d6 : decide (x = t) = false := by simpa using hxe
              clear hxt hxe
              go_wp2
              go_roundw
              case rel => exact ⟨q + 1, hlt, by go_num, ⟨y, rfl, by
                have h1 := HYY.out; have h2 := HEQ.out; have h3 := HXE.out
                rw [if_neg h3] at h2; omega⟩, by rw [HS2.out, HOL.out]; exact HV.out, HB.out⟩
              case measure => simp [intOf]; omega
        · have e : q = l.length := by omega
          have HE := hid (show selTo l k t q = sel l k t by rw [e]; rfl)
          have hqi : ¬ (q : Int) < (l.length : Int) := by omega
          clear hlt e hB hy
          go_wp2
          go_ret
          exact ⟨_, rfl, by rw [← HE.out]; exact HV.out, HB.out⟩

end Go.Proofs.Ytecojmpiaaehlaa
