/-
  Remove and Fix of package heap.
-/
import Derived.Test.YtcgfechodbmimaaPrD
import Derived.Deep.Cut
namespace Go.Proofs.Ytcgfechodbmimaa
open Go.RowKit Go.ChangeMaps
set_option linter.unusedVariables false
set_option linter.unusedSimpArgs false

set_option maxRecDepth 100000 in
set_option maxHeartbeats 4000000 in
theorem hfix_any (w : World) (lo b m : Nat) (v : Value) (q : List It) (i : Nat) (h : RwAt w lo b v m q) (hi : i < q.length) (ha : AnyInv q q.length i) :
    Calls Try.prog 22 #[.iface 56 (.pointer (some ⟨b, 0, none⟩)), .int .i64 i] w fun e w' => e = .returned (.tuple #[]) ∧ ∃ q', RwAt w' lo b v m q' ∧ HeapN q' q'.length ∧ q'.Perm q ∧ Keeps (Hb b m v) w w' := by
  have hmLen : ∀ W : World, (method 220 56 (.pointer (some ⟨b, 0, none⟩)) "Len").run Try.prog W = .ok (27, .pointer (some ⟨b, 0, none⟩)) W := fun _ => by kernel_rfl
  have HL := hid (qlen_any w lo b m v q h)
  have HD := hid (down_fix w lo b m v q i q.length h (Nat.le_refl _) (Nat.le_of_lt hi) ha)
  have HU := hid (fun W hR hu => up_n W lo b m v q i q.length hR (Nat.le_refl _) hi hu)
  have HLE := hid (show ∀ q' : List It, q'.Perm q → q'.length = q.length from fun q' hp => hp.length_eq)
  generalize hN : q.length = n at *
  clear h hi ha hN
  go_enter Try.func22, Try.ntmps22
  go_upto_if 9 with (first
    | (go_at_call 27; (with_reducible refine HL.out.mono ?_); rintro e w1 ⟨rfl, rfl⟩)
    | (go_at_call 29; (with_reducible refine HD.out.mono ?_); rintro e w2 ⟨r, q2, rfl, hr2, hp2, hh2, ht2, hk2⟩; have HR2 := hid hr2; have HP2 := hid hp2; have HH2 := hid hh2; have HK2 := hid hk2; clear hr2 hp2 hh2 ht2 hk2)
    | fail)
  rcases HH2.out with ⟨e1, hh⟩ | ⟨e1, e2, hu⟩
  · subst e1
    have HHH := hid hh
    clear hh
    go_wp2_with fail
    go_end0
    exact ⟨rfl, q2, HR2.out, by rw [HLE.out _ HP2.out]; exact HHH.out, HP2.out, HK2.out⟩
  · subst e1
    have HUU := hid hu
    have HE2 := hid e2
    have HR3 := hid (show RwAt w2 lo b v m q by have := HR2.out; rw [e2] at this; exact this)
    clear hu e2
    go_wp2_with (first
      | (go_at_call 28; (with_reducible refine (HU.out _ HR3.out HUU.out).mono ?_); rintro e w3 ⟨rfl, q3, hr3, hp3, hh3, ht3, hk3⟩; have HR4 := hid hr3; have HP3 := hid hp3; have HH3 := hid hh3; have HK3 := hid hk3; clear hr3 hp3 hh3 ht3 hk3)
      | fail)
    go_end0
    exact ⟨rfl, q3, HR4.out, by rw [HLE.out _ HP3.out]; exact HH3.out, HP3.out, HK2.out.trans HK3.out⟩

set_option maxRecDepth 100000 in
set_option maxHeartbeats 4000000 in
theorem hremove_any (w : World) (lo b m : Nat) (v : Value) (q : List It) (i n : Nat) (h : RwAt w lo b v m q) (hh : HeapN q q.length) (hn : q.length = n + 1) (hi : i ≤ n) :
    Calls Try.prog 21 #[.iface 56 (.pointer (some ⟨b, 0, none⟩)), .int .i64 i] w fun e w' => e = .returned (.iface 32 (itv (it q i))) ∧ ∃ v' q', RwAt w' lo b v' m q' ∧ HeapN q' q'.length ∧ (it q i :: q').Perm q ∧ Keeps (Hb b m v) w w' ∧ v'.ownBlock = v.ownBlock := by
  have hmPop : ∀ W : World, (method 220 56 (.pointer (some ⟨b, 0, none⟩)) "Pop").run Try.prog W = .ok (74, .pointer (some ⟨b, 0, none⟩)) W := fun _ => by kernel_rfl
  have hmLen : ∀ W : World, (method 220 56 (.pointer (some ⟨b, 0, none⟩)) "Len").run Try.prog W = .ok (27, .pointer (some ⟨b, 0, none⟩)) W := fun _ => by kernel_rfl
  have hmSwap : ∀ W : World, (method 220 56 (.pointer (some ⟨b, 0, none⟩)) "Swap").run Try.prog W = .ok (76, .pointer (some ⟨b, 0, none⟩)) W := fun _ => by kernel_rfl
  have HL := hid (show Calls Try.prog 27 #[.pointer (some ⟨b, 0, none⟩)] w fun e w' => e = .returned (.int .i64 ((n + 1 : Nat) : Int)) ∧ w = w' by have h1 := qlen_any w lo b m v q h; rw [hn] at h1; exact h1)
  have hw : wrap64 (n : Int) = (n : Int) := by have := h.len; unfold wrap64; omega
  obtain ⟨q1, hq1⟩ : ∃ q1, q1 = swp q i n := ⟨_, rfl⟩
  have hl1 : q1.length = n + 1 := by rw [hq1, swp_len, hn]
  have HPS := hid (show q1.Perm q by rw [hq1]; exact swp_perm (q := q) (i := i) (j := n) (by omega) (by omega))
  have HTN := hid (show it q1 n = it q i by rw [hq1, it_swp (by omega) (by omega), if_pos rfl])
  have HS := hid (show Calls Try.prog 76 #[.pointer (some ⟨b, 0, none⟩), .int .i64 i, .int .i64 n] w fun e w' => e = .returned (.tuple #[]) ∧ RwAt w' lo b v m q1 ∧ Keeps (Hb b m v) w w' from by rw [hq1]; exact qswap_any w lo b m v q i n h (by omega) (by omega))
  have hany : AnyInv q1 n i := any_set (q := q) (fun k a c => hh k a (by omega)) (fun k a c => by rw [hq1, it_swp (by omega) (by omega), if_neg (by omega), if_neg c])
  have HD := hid (fun W hR => down_fix W lo b m v q1 i n hR (by omega) hi hany)
  have HU := hid (fun W hR hj hu => up_n W lo b m v q1 i n hR (by omega) hj hu)
  have HPO := hid (fun W (q2 : List It) (hR : RwAt W lo b v m q2) (hp : q2.Perm q) (ht : it q2 n = it q i) => show Calls Try.prog 74 #[.pointer (some ⟨b, 0, none⟩)] W fun e w' => e = .returned (.iface 32 (itv (it q i))) ∧ ∃ v', RwAt w' lo b v' m (q2.take n) ∧ Keeps (Hb b m v) W w' ∧ v'.ownBlock = v.ownBlock from by
    have hl2 : q2.length = n + 1 := by rw [hp.length_eq, hn]
    have hs := split_last hl2
    rw [ht] at hs
    refine qpop_any W lo b m v (q2.take n) (it q i) ?_
    rw [← hs]; exact hR)
  have HPP := hid (fun (q2 : List It) (hp : q2.Perm q) (ht : it q2 n = it q i) => show (it q i :: q2.take n).Perm q ∧ (q2.take n).length = n from by
    have hl2 : q2.length = n + 1 := by rw [hp.length_eq, hn]
    have hs := split_last hl2
    rw [ht] at hs
    refine ⟨(List.perm_append_singleton (it q i) (q2.take n)).symm.trans ?_, by rw [List.length_take]; omega⟩
    rw [← hs]
    exact hp)
  have HH0 := hid (show HeapN q n from fun k a c => hh k a (by omega))
  have HR0 := hid h
  have HTI := hid (show i = n → it q n = it q i from fun e => by rw [e])
  generalize itv (it q i) = X at *
  clear h hh hn hq1 hl1 hany
  go_enter Try.func21, Try.ntmps21
  by_cases hin : i = n
  · subst hin
    go_wp2_with (first
      | (go_at_call 27; (with_reducible refine HL.out.mono ?_); rintro e w1 ⟨rfl, rfl⟩)
      | (go_at_call 74; (with_reducible refine (HPO.out _ _ HR0.out (List.Perm.refl _) rfl).mono ?_); rintro e w3 ⟨rfl, v3, hr3, hk3, ho3⟩; have HR3 := hid hr3; have HK3 := hid hk3; have HO3 := hid ho3; clear hr3 hk3 ho3)
      | fail)
    go_ret
    exact ⟨rfl, v3, _, HR3.out, by rw [(HPP.out _ (List.Perm.refl _) rfl).2]; exact heap_take HH0.out, (HPP.out _ (List.Perm.refl _) rfl).1, HK3.out, HO3.out⟩
  · have d1 : ((n : Int) == (i : Int)) = false := by rw [beq_eq_false_iff_ne]; omega
    have d2 : ((n : Int) != (i : Int)) = true := by simp; omega
    have d3 : ¬ (n : Int) = (i : Int) := by omega
    have hilt : i < n := by omega
    have HLT := hid hilt
    clear hin hilt hi
    go_upto_if 20 with (first
      | (go_at_call 27; (with_reducible refine HL.out.mono ?_); rintro e w1 ⟨rfl, rfl⟩)
      | (go_at_call 76; (with_reducible refine HS.out.mono ?_); rintro e w1 ⟨rfl, hr1, hk1⟩; have HR1 := hid hr1; have HK1 := hid hk1; clear hr1 hk1)
      | (go_at_call 29; (with_reducible refine (HD.out _ HR1.out).mono ?_); rintro e w2 ⟨r, q2, rfl, hr2, hp2, hh2, ht2, hk2⟩; have HR2 := hid hr2; have HP2 := hid hp2; have HH2 := hid hh2; have HT2 := hid ht2; have HK2 := hid hk2; clear hr2 hp2 hh2 ht2 hk2)
      | fail)
    rcases HH2.out with ⟨e1, hh⟩ | ⟨e1, e2, hu⟩
    · subst e1
      have HHH := hid hh
      have HPQ := hid (HP2.out.trans HPS.out)
      have HTQ := hid ((HT2.out n (Nat.le_refl _)).trans HTN.out)
      clear hh
      go_wp2_with (first
        | (go_at_call 74; (with_reducible refine (HPO.out _ _ HR2.out HPQ.out HTQ.out).mono ?_); rintro e w3 ⟨rfl, v3, hr3, hk3, ho3⟩; have HR3 := hid hr3; have HK3 := hid hk3; have HO3 := hid ho3; clear hr3 hk3 ho3)
        | fail)
      go_ret
      exact ⟨rfl, v3, _, HR3.out, by rw [(HPP.out _ HPQ.out HTQ.out).2]; exact heap_take HHH.out, (HPP.out _ HPQ.out HTQ.out).1, (HK1.out.trans HK2.out).trans HK3.out, HO3.out⟩
    · subst e1
      have HUU := hid hu
      have HR3 := hid (show RwAt w2 lo b v m q1 by have := HR2.out; rw [e2] at this; exact this)
      clear hu e2
      go_wp2_with (first
        | (go_at_call 28; (with_reducible refine (HU.out _ HR3.out HLT.out HUU.out).mono ?_); rintro e w4 ⟨rfl, q4, hr4, hp4, hh4, ht4, hk4⟩; have HR4 := hid hr4; have HP4 := hid (hp4.trans HPS.out); have HH4 := hid hh4; have HT4 := hid ((ht4 n (Nat.le_refl _)).trans HTN.out); have HK4 := hid hk4; clear hr4 hp4 hh4 ht4 hk4)
        | (go_at_call 74; (with_reducible refine (HPO.out _ _ HR4.out HP4.out HT4.out).mono ?_); rintro e w3 ⟨rfl, v3, hr3, hk3, ho3⟩; have HR5 := hid hr3; have HK3 := hid hk3; have HO3 := hid ho3; clear hr3 hk3 ho3)
        | fail)
      go_ret
      exact ⟨rfl, v3, _, HR5.out, by rw [(HPP.out _ HP4.out HT4.out).2]; exact heap_take HH4.out, (HPP.out _ HP4.out HT4.out).1, ((HK1.out.trans HK2.out).trans HK4.out).trans HK3.out, HO3.out⟩

end Go.Proofs.Ytcgfechodbmimaa
