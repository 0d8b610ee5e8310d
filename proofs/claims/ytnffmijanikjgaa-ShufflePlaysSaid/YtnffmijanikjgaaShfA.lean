/-
  Contracts of shuffle: goes.
-/
import Derived.Test.YtnffmijanikjgaaRowG
import Derived.Test.YtnffmijanikjgaaRowH
namespace Go.Proofs.Ytnffmijanikjgaa
open Go.RowKit Go.Shelf
set_option linter.unusedVariables false

/-- Of tells these nodes, whoever it is. -/
theorem of_nodes (w : World) (b : Nat) (m : Mx) (j : Nat) (h : MxAt w b m) :
    Calls Try.prog 35 #[.pointer (some ⟨b, 0, none⟩), .int .u32 (j : Nat)] w fun e w' => ∃ r v q, e = .returned (.tuple #[.int .i64 (r : Nat), v, .bool q]) ∧ w'.ownsRow w.heap.size 3 1 v (m.nodes j).length ((m.nodes j).map iv) ∧ Below w.heap.size w w' := by
  cases hw : m.where j with
  | none =>
    refine (of_none w b m j h hw).mono ?_
    rintro e w' ⟨rfl, hb⟩
    rw [nodes_of_none hw]
    exact ⟨0, _, _, rfl, World.ownsRow_nil _ _ _ _, hb⟩
  | some f =>
    refine (of_some w b m j f h hw).mono ?_
    rintro e w' ⟨v, rfl, hv, _, hb⟩
    rw [Mx.nodes_of hw]
    exact ⟨f, _, _, rfl, hv, hb⟩

theorem nodes_lt {m : Mx} {j : Nat} : ∀ n ∈ m.nodes j, n < m.n := by
  intro n hn
  unfold Mx.nodes at hn
  split at hn
  · cases hn
  · exact (own_mem.1 hn).1

theorem Mx.goes_snoc (m : Mx) (t : Nat) (J : List Nat) (j : Nat) : m.goes t (J ++ [j]) = (m.goes t J && (m.nodes j).all fun k => m.c (16 * t + k) == 0) := by
  unfold Mx.goes
  rw [List.all_append]; simp

theorem goes_false {m : Mx} {t j k : Nat} {J : List Nat} (hj : j ∈ J) (hk : k ∈ m.nodes j) (hc : m.c (16 * t + k) ≠ 0) : m.goes t J = false := by
  rw [Bool.eq_false_iff]
  intro h
  unfold Mx.goes at h
  rw [List.all_eq_true] at h
  have h1 := h j hj
  rw [List.all_eq_true] at h1
  have := h1 k hk
  simp at this
  exact hc this

/-- An element of a slice that reads so. -/
theorem RdV.at1 {w : World} {a : Option Addr} {n cap : Nat} {xs : List Value} (h : RdV w (.slice a n cap) xs) (k : Nat) (x : Value) (hk : xs[k]? = some x) : n = xs.length ∧ ∃ b off, a = some ⟨b, off, none⟩ ∧ b < w.heap.size ∧ w.cell? ⟨b, off + k, none⟩ = some x := by
  rcases h with ⟨_, he⟩ | ⟨g, o, cap', e, h1, h2, h3, h4⟩
  · subst he; simp at hk
  · simp only [Value.slice.injEq] at e
    obtain ⟨rfl, rfl, rfl⟩ := e
    exact ⟨rfl, g, o, rfl, h3, h4 k x hk⟩

set_option maxHeartbeats 2000000 in
theorem goes_sh (w : World) (b t : Nat) (m : Mx) (va : Value) (J : List Nat) (h : MxAt w b m) (ht : t < m.r) (hr : RdV w va (J.map uv)) :
    Calls Try.prog 55 #[.pointer (some ⟨b, 0, none⟩), .int .i64 t, va] w fun e w' => e = .returned (.bool (m.goes t J)) ∧ Below w.heap.size w w' := by
  obtain ⟨ad, cap, rfl, hcl, hcm⟩ := hr.len
  rw [List.length_map] at hcl hr
  have HR := hid hr
  have HH := hid h
  have HB := hid h.lt
  have hr8 := h.r8
  have hti : (t : Int) < 8 := by omega
  clear hr h
  have hlm : J.length ≤ 9223372036854775807 := by omega
  rw [List.length_map]
  go_enter Try.func55, Try.ntmps55
  go_wp2
  go_loopw [16] (fun i wr => ∃ k : Nat, k ≤ J.length ∧ i = .int .i64 k ∧ m.goes t (J.take k) = true ∧ Below w.heap.size w wr) (fun i _ => J.length - (intOf i).toNat)
  case atStart => exact ⟨0, Nat.zero_le _, rfl, by simp [Mx.goes], Below.refl _ _⟩
  case round =>
    obtain ⟨k, hk, rfl, hw, hB⟩ := hrel
    have HW := hid hw
    have HK := hid hB
    have hs0 := hB.size
    have HM := hid (HH.out.below hB HB.out)
    clear hw hB
    by_cases hlt : k < J.length
    · obtain ⟨j, hj⟩ : ∃ j, J[k]? = some j := ⟨_, List.getElem?_eq_getElem hlt⟩
      have HJ := hid (List.mem_of_getElem? hj)
      have HT := hid (take_snoc' J k j hj)
      obtain ⟨-, g, o, rfl, hg, hcell⟩ := (HR.out.all HK.out).at1 k (uv j) (by simp [hj])
      have hcell2 : wr.cell? ⟨g, o + k, none⟩ = some (.int .u32 (j : Nat)) := hcell
      clear hcell hj hg
      obtain ⟨wq, hwq⟩ : ∃ wq, wq = wr := ⟨_, rfl⟩
      subst hwq
      go_wp2_with fail
      refine (of_nodes wq b m j HM.out).mono ?_
      rintro e w2 ⟨r, v, q, rfl, hv, hb2⟩
      have HV := hid (RdV.of_own hv)
      have HB2 := hid hb2
      have hs2 := hb2.size
      have HM2 := hid (HM.out.below hb2 HM.out.lt)
      obtain ⟨a2, c2, rfl, hc1, hc2⟩ := (RdV.of_own hv).len
      rw [List.length_map] at hc1 HV
      clear hv hb2
      rw [List.length_map]
      have HNL := hid (nodes_lt (m := m) (j := j))
      generalize hnd : m.nodes j = nd at *
      have HND := hid hnd
      clear hnd
      have hlm2 : nd.length ≤ 9223372036854775807 := by omega
      go_wp2_with fail
      go_loop [29] (fun i => ∃ q : Nat, q ≤ nd.length ∧ i = .int .i64 q ∧ (nd.take q).all (fun k => m.c (16 * t + k) == 0) = true) (fun i => nd.length - (intOf i).toNat)
      case atStart => exact ⟨0, Nat.zero_le _, rfl, by simp⟩
      case round =>
        obtain ⟨q, hq, rfl, ha⟩ := hrel
        have HA := hid ha
        clear ha
        by_cases hql : q < nd.length
        · obtain ⟨n, hn⟩ : ∃ n, nd[q]? = some n := ⟨_, List.getElem?_eq_getElem hql⟩
          have hnm := List.mem_of_getElem? hn
          have HNM := hid hnm
          have hnn := HNL.out n hnm
          have HT2 := hid (take_snoc' nd q n hn)
          obtain ⟨-, g2, o2, rfl, hg2, hcelln⟩ := HV.out.at1 q (iv n) (by simp [hn])
          have hcelln2 : w2.cell? ⟨g2, o2 + q, none⟩ = some (.int .i64 n) := hcelln
          clear hcelln hn hg2 hnm
          by_cases hc0 : m.c (16 * t + n) = 0
          · have HC0 := hid hc0
            clear hc0
            go_wp2_with (first
              | (go_at_call 38; refine (at_yes w2 b m t n HM2.out ht hnn).mono ?_; rintro e w3 ⟨rfl, rfl⟩; rw [HC0.out])
              | fail)
            go_round
            case rel => exact ⟨q + 1, hql, by go_num, by rw [HT2.out, List.all_append, HA.out]; simp [HC0.out]⟩
            case measure => simp [intOf]; omega
          · obtain ⟨y, hy⟩ : ∃ y, m.c (16 * t + n) = y + 1 := ⟨m.c (16 * t + n) - 1, by omega⟩
            have hy1 : ((((y : Nat) : Int) + 1) == 0) = false := by simp; omega
            have hy2 : ((((y : Nat) : Int) + 1) != 0) = true := by simp; omega
            have hy3 : (((y + 1 : Nat) : Int) != 0) = true := by simp; omega
            have HF := hid (show m.goes t J = false from goes_false HJ.out (by rw [HND.out]; exact HNM.out) hc0)
            have HY := hid hy
            clear hc0 hy
            go_wp2_with (first
              | (go_at_call 38; refine (at_yes w2 b m t n HM2.out ht hnn).mono ?_; rintro e w3 ⟨rfl, rfl⟩; rw [HY.out])
              | fail)
            go_ret
            exact ⟨by rw [HF.out]; rfl, HK.out.trans (HB2.out.mono hs0)⟩
        · have e : q = nd.length := by omega
          have HG := hid (show m.goes t (J.take (k + 1)) = true by
            have h1 := HA.out
            rw [e, List.take_length] at h1
            rw [HT.out, Mx.goes_snoc, HW.out, HND.out, h1]; rfl)
          have hqi : ¬ (q : Int) < (nd.length : Int) := by omega
          clear hql e
          go_wp2
          go_roundw
          case rel => exact ⟨k + 1, hlt, by go_num, HG.out, HK.out.trans (HB2.out.mono hs0)⟩
          case measure => simp [intOf]; omega
    · have e : k = J.length := by omega
      have HE := hid (show J.take k = J by rw [e]; exact List.take_length)
      have hki : ¬ (k : Int) < (J.length : Int) := by omega
      go_wp2
      go_ret
      exact ⟨by rw [← HW.out, HE.out]; rfl, HK.out⟩

end Go.Proofs.Ytnffmijanikjgaa
