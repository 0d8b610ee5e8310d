/-
  Push and Pop of package heap.
-/
import Derived.Test.YtcgfechodbmimaaPrW
namespace Go.Proofs.Ytcgfechodbmimaa
open Go.RowKit Go.ChangeMaps
set_option linter.unusedVariables false
set_option linter.unusedSimpArgs false

theorem split_last {q : List It} {n : Nat} (hl : q.length = n + 1) : q = q.take n ++ [it q n] := by
  conv => lhs; rw [← List.take_append_drop n q]
  congr 1
  have h1 := it_some (q := q) (k := n) (by omega)
  rw [List.getElem?_eq_getElem (by omega)] at h1
  rw [List.drop_eq_getElem_cons (by omega), List.drop_eq_nil_of_le (by omega), Option.some.inj h1]

set_option maxRecDepth 100000 in
set_option maxHeartbeats 4000000 in
theorem hpush_any (w : World) (lo b m : Nat) (v : Value) (q : List It) (x : It) (h : RwAt w lo b v m q) (hh : HeapN q q.length) (hx : kw x.1) (hn : plc q x.1 = none) (hl : q.length < 10000) (hlo : lo ≤ w.heap.size) :
    Calls Try.prog 19 #[.iface 56 (.pointer (some ⟨b, 0, none⟩)), .iface 32 (itv x)] w fun e w' => e = .returned (.tuple #[]) ∧ ∃ v' q', RwAt w' lo b v' m q' ∧ HeapN q' q'.length ∧ q'.Perm (x :: q) ∧ Keeps (Hb b m v) w w' ∧ ∀ k, v'.ownBlock = some k → v.ownBlock = some k ∨ w.heap.size ≤ k := by
  have hmPush : ∀ W : World, (method 220 56 (.pointer (some ⟨b, 0, none⟩)) "Push").run Try.prog W = .ok (75, .pointer (some ⟨b, 0, none⟩)) W := fun _ => by kernel_rfl
  have hmLen : ∀ W : World, (method 220 56 (.pointer (some ⟨b, 0, none⟩)) "Len").run Try.prog W = .ok (27, .pointer (some ⟨b, 0, none⟩)) W := fun _ => by kernel_rfl
  have HP := hid (qpush_any w lo b m v q x h hx hn hl hlo)
  have hU := hid (up_start (x := x) hh)
  have hlen : (q ++ [x]).length = q.length + 1 := by simp
  have hw : wrap64 (q.length : Int) = (q.length : Int) := by unfold wrap64; omega
  have HL := hid (fun W v' hR => by have h1 := qlen_any W lo b m v' (q ++ [x]) hR; rw [hlen] at h1; exact h1)
  have HUP := hid (fun W v' hR => up_any W lo b m v' (q ++ [x]) q.length hR (by omega) (by rw [hlen]; exact hU.out))
  have HPM := hid (show (q ++ [x]).Perm (x :: q) from List.perm_append_singleton x q)
  have hlb := h.lt
  have hlm := h.mp.lt
  generalize itv x = X at *
  clear h hx hn hl
  generalize hN : q.length = n at *
  clear hN hlen hh
  go_enter Try.func19, Try.ntmps19
  go_wp2_with (first
    | (go_at_call 75; (with_reducible refine HP.out.mono ?_); rintro e w1 ⟨rfl, v1, hr1, hk1, ho1⟩; have HR1 := hid hr1; have HK1 := hid hk1; have HO1 := hid ho1; clear hr1 hk1 ho1)
    | (go_at_call 27; (with_reducible refine (HL.out _ _ HR1.out).mono ?_); rintro e w2 ⟨rfl, rfl⟩)
    | (go_at_call 28; (with_reducible refine (HUP.out _ _ HR1.out).mono ?_); rintro e w3 ⟨rfl, q3, hr3, hp3, hh3, hk3⟩; have HR3 := hid hr3; have HP3 := hid hp3; have HH3 := hid hh3; have HK3 := hid hk3; clear hr3 hp3 hh3 hk3)
    | fail)
  go_end0
  exact ⟨rfl, v1, q3, HR3.out, HH3.out, HP3.out.trans HPM.out, HK1.out.trans' HK3.out (fun i hi hs => by
    rcases hs with h | h | h
    · exact .inl h
    · exact .inr (.inl h)
    · rcases HO1.out i h with h' | h'
      · exact .inr (.inr h')
      · omega), HO1.out⟩

set_option maxRecDepth 100000 in
set_option maxHeartbeats 4000000 in
theorem hpop_any (w : World) (lo b m : Nat) (v : Value) (q : List It) (n : Nat) (h : RwAt w lo b v m q) (hh : HeapN q q.length) (hn : q.length = n + 1) :
    Calls Try.prog 20 #[.iface 56 (.pointer (some ⟨b, 0, none⟩))] w fun e w' => e = .returned (.iface 32 (itv (it q 0))) ∧ ∃ v' q', RwAt w' lo b v' m q' ∧ HeapN q' q'.length ∧ (it q 0 :: q').Perm q ∧ Keeps (Hb b m v) w w' ∧ v'.ownBlock = v.ownBlock := by
  have hmPop : ∀ W : World, (method 220 56 (.pointer (some ⟨b, 0, none⟩)) "Pop").run Try.prog W = .ok (74, .pointer (some ⟨b, 0, none⟩)) W := fun _ => by kernel_rfl
  have hmLen : ∀ W : World, (method 220 56 (.pointer (some ⟨b, 0, none⟩)) "Len").run Try.prog W = .ok (27, .pointer (some ⟨b, 0, none⟩)) W := fun _ => by kernel_rfl
  have hmSwap : ∀ W : World, (method 220 56 (.pointer (some ⟨b, 0, none⟩)) "Swap").run Try.prog W = .ok (76, .pointer (some ⟨b, 0, none⟩)) W := fun _ => by kernel_rfl
  have HL := hid (show Calls Try.prog 27 #[.pointer (some ⟨b, 0, none⟩)] w fun e w' => e = .returned (.int .i64 ((n + 1 : Nat) : Int)) ∧ w = w' by have h1 := qlen_any w lo b m v q h; rw [hn] at h1; exact h1)
  have hw : wrap64 (n : Int) = (n : Int) := by have := h.len; unfold wrap64; omega
  have HS := hid (show Calls Try.prog 76 #[.pointer (some ⟨b, 0, none⟩), .int .i64 0, .int .i64 n] w fun e w' => e = .returned (.tuple #[]) ∧ RwAt w' lo b v m (swp q 0 n) ∧ Keeps (Hb b m v) w w' from qswap_any w lo b m v q 0 n h (by omega) (by omega))
  have HD := hid (fun W hR => show Calls Try.prog 29 #[.iface 56 (.pointer (some ⟨b, 0, none⟩)), .int .i64 0, .int .i64 n] W fun e w' => ∃ r q', e = .returned (.bool r) ∧ RwAt w' lo b v m q' ∧ q'.Perm (swp q 0 n) ∧ HeapN q' n ∧ (∀ p, n ≤ p → it q' p = it (swp q 0 n) p) ∧ Keeps (Hb b m v) W w' from down_any W lo b m v (swp q 0 n) 0 n hR (by rw [swp_len]; omega) (Nat.zero_le _) (down_start (by rw [← hn]; exact hh) hn))
  have HPS := hid (swp_perm (q := q) (i := 0) (j := n) (by omega) (by omega))
  have HTN := hid (show it (swp q 0 n) n = it q 0 by rw [it_swp (by omega) (by omega), if_pos rfl])
  have HPO := hid (fun W (q2 : List It) (hR : RwAt W lo b v m q2) (hp : q2.Perm (swp q 0 n)) (ht : ∀ p, n ≤ p → it q2 p = it (swp q 0 n) p) => show Calls Try.prog 74 #[.pointer (some ⟨b, 0, none⟩)] W fun e w' => e = .returned (.iface 32 (itv (it q 0))) ∧ ∃ v', RwAt w' lo b v' m (q2.take n) ∧ Keeps (Hb b m v) W w' ∧ v'.ownBlock = v.ownBlock from by
    have hl2 : q2.length = n + 1 := by rw [hp.length_eq, swp_len, hn]
    have hs := split_last hl2
    rw [ht n (Nat.le_refl _), HTN.out] at hs
    refine qpop_any W lo b m v (q2.take n) (it q 0) ?_
    rw [← hs]; exact hR)
  have HPP := hid (fun (q2 : List It) (hp : q2.Perm (swp q 0 n)) (ht : ∀ p, n ≤ p → it q2 p = it (swp q 0 n) p) => show (it q 0 :: q2.take n).Perm q ∧ (q2.take n).length = n from by
    have hl2 : q2.length = n + 1 := by rw [hp.length_eq, swp_len, hn]
    have hs := split_last hl2
    rw [ht n (Nat.le_refl _), HTN.out] at hs
    refine ⟨(List.perm_append_singleton (it q 0) (q2.take n)).symm.trans ?_, by rw [List.length_take]; omega⟩
    rw [← hs]
    exact hp.trans HPS.out)
  generalize itv (it q 0) = X at *
  clear h hh hn
  go_enter Try.func20, Try.ntmps20
  go_wp2_with (first
    | (go_at_call 27; (with_reducible refine HL.out.mono ?_); rintro e w1 ⟨rfl, rfl⟩)
    | (go_at_call 76; (with_reducible refine HS.out.mono ?_); rintro e w1 ⟨rfl, hr1, hk1⟩; have HR1 := hid hr1; have HK1 := hid hk1; clear hr1 hk1)
    | (go_at_call 29; (with_reducible refine (HD.out _ HR1.out).mono ?_); rintro e w2 ⟨r, q2, rfl, hr2, hp2, hh2, ht2, hk2⟩; have HR2 := hid hr2; have HP2 := hid hp2; have HH2 := hid hh2; have HT2 := hid ht2; have HK2 := hid hk2; clear hr2 hp2 hh2 ht2 hk2)
    | (go_at_call 74; (with_reducible refine (HPO.out _ _ HR2.out HP2.out HT2.out).mono ?_); rintro e w3 ⟨rfl, v3, hr3, hk3, ho3⟩; have HR3 := hid hr3; have HK3 := hid hk3; have HO3 := hid ho3; clear hr3 hk3 ho3)
    | fail)
  go_ret
  exact ⟨rfl, v3, _, HR3.out, by rw [(HPP.out _ HP2.out HT2.out).2]; exact heap_take HH2.out, (HPP.out _ HP2.out HT2.out).1, (HK1.out.trans HK2.out).trans HK3.out, HO3.out⟩

end Go.Proofs.Ytcgfechodbmimaa
