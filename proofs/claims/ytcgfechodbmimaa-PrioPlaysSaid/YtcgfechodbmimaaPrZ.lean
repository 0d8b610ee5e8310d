/-
  The document's example.
-/
import Derived.Test.YtcgfechodbmimaaPrY
import Derived.Deep.Cut
namespace Go.Proofs.Ytcgfechodbmimaa
open Go.RowKit Go.ChangeMaps
set_option linter.unusedVariables false
set_option linter.unusedSimpArgs false

def awL : List It := [(1, 0, 0), (2, 3, 0), (3, 3, 0)]
def awS : List It := [(2, 3, 0), (3, 3, 0), (1, 0, 0)]
theorem aw_perm : awL.Perm awS := by decide
theorem aw_new : ∀ k x, awL[k]? = some x → kw x.1 ∧ ∀ y ∈ awL.take k, y.1 ≠ x.1
  | 0, _, h => by cases h; exact ⟨by unfold kw; decide, by decide⟩
  | 1, _, h => by cases h; exact ⟨by unfold kw; decide, by decide⟩
  | 2, _, h => by cases h; exact ⟨by unfold kw; decide, by decide⟩
  | k + 3, _, h => by cases h
theorem Keeps.lo {S : Nat → Prop} {w w' : World} {lo : Nat} (h : Keeps S w w') (hl : lo ≤ w.heap.size) (hS : ∀ k, S k → lo ≤ k) : Below lo w w' := ⟨h.os, h.tape, h.output, h.size, fun k hk => h.block k (by omega) (fun e => by have := hS k e; omega)⟩
theorem RwAt.hb {w : World} {lo b : Nat} {v : Value} {m : Nat} {q : List It} (h : RwAt w lo b v m q) : ∀ k, Hb b m v k → lo ≤ k := by
  rintro k (e | e | e)
  · rw [e]; exact h.lob
  · rw [e]; exact h.lom
  · exact (World.ownsRow.lt h.own k e).1

set_option maxRecDepth 100000 in
set_option maxHeartbeats 8000000 in
theorem awake11_any (w : World) : Calls Try.prog 5 #[] w fun e w' => e = .returned (.bool true) ∧ Below w.heap.size w w' := by
  go_enter Try.func5, Try.ntmps5
  go_wp2_with fail
  refine (new11_any w).mono ?_
  rintro e w1 ⟨rfl, hr1, hb1⟩
  have HR1 := hid hr1
  have HB1 := hid hb1
  have hs1 : w.heap.size + 2 ≤ w1.heap.size := by have := hr1.lt; omega
  clear hr1 hb1
  go_wp2_with fail
  obtain ⟨ga, hga⟩ : ∃ ga, ga = w1.heap.size := ⟨_, rfl⟩
  obtain ⟨w2, hw2⟩ : ∃ w2, w2 = w1.alloc (.cells #[.int .u32 1, .int .u8 0, .int .u32 0, .int .u32 2, .int .u8 3, .int .u32 0, .int .u32 3, .int .u8 3, .int .u32 0] 32) := ⟨_, rfl⟩
  have hb2 : Below w1.heap.size w1 w2 := by rw [hw2]; exact (Below.refl _ _).alloc (Nat.le_refl _) _
  have hrow2 : w2.heap[ga]? = some (.cells (cels awL).toArray 32 (0, 0)) := by rw [hw2, hga]; exact heap_alloc_new w1 _
  have hs2 : w2.heap.size = ga + 1 := by rw [hw2, hga]; simp
  rw [← hw2, ← hga]
  have HR2 := hid (HR1.out.below hb2)
  have HB2 := hid (HB1.out.trans (hb2.mono HB1.out.size))
  have HRW2 := hid hrow2
  have hgl : w.heap.size + 2 ≤ ga := by omega
  clear hw2 hb2 hrow2 hga hs1 HR1 HB1
  go_loopw [16] (fun i wr => ∃ (k : Nat) (v : Value) (q : List It), i = .int .i64 k ∧ k ≤ 3 ∧ RwAt wr w.heap.size (w.heap.size + 1) v w.heap.size q ∧ HeapN q q.length ∧ q.Perm (awL.take k) ∧ wr.heap[ga]? = some (.cells (cels awL).toArray 32 (0, 0)) ∧ (∀ p, v.ownBlock = some p → ga < p) ∧ Below w.heap.size w wr) (fun i _ => 3 - (intOf i).toNat)
  case atStart => exact ⟨0, _, [], rfl, by omega, HR2.out, fun k _ h => absurd h (by simp), List.Perm.refl _, HRW2.out, fun p hp => (by cases hp), HB2.out⟩
  case round =>
    obtain ⟨k, v, q, rfl, hk, hR, hh, hp, hrow, hown, hB⟩ := hrel
    have HR := hid hR
    have HB := hid hB
    have HRW := hid hrow
    have HOW := hid hown
    have hgw : ga < wr.heap.size := (Array.getElem?_eq_some_iff.1 hrow).1
    by_cases hlt : k < 3
    · obtain ⟨x, hx⟩ : ∃ x, awL[k]? = some x := ⟨_, List.getElem?_eq_getElem hlt⟩
      obtain ⟨hkx, hne⟩ := aw_new k x hx
      have hxi : it awL k = x := it_get hx
      have c0 : wr.cell? ⟨ga, k * 3, none⟩ = some (.int .u32 x.1) := (cell_of_row _ _ _ _ _ _ hrow).trans (by simpa using cels_at awL k 0 _ hlt (by rw [hxi]; rfl))
      have c1 : wr.cell? ⟨ga, k * 3 + 1, none⟩ = some (.int .u8 x.2.1) := (cell_of_row _ _ _ _ _ _ hrow).trans (by simpa using cels_at awL k 1 _ hlt (by rw [hxi]; rfl))
      have c2 : wr.cell? ⟨ga, k * 3 + 2, none⟩ = some (.int .u32 x.2.2) := (cell_of_row _ _ _ _ _ _ hrow).trans (by simpa using cels_at awL k 2 _ hlt (by rw [hxi]; rfl))
      have hlen := hp.length_eq
      have hpn : plc q x.1 = none := plc_none.2 fun y hy => hne y (hp.mem_iff.1 hy)
      have HPU := hid (fun W hR hlo => push11_yes W w.heap.size (w.heap.size + 1) w.heap.size v q x hR hh hkx hpn (by rw [hlen, List.length_take]; show min k 3 < 10000; omega) hlo)
      have HTK := hid (show (x :: awL.take k).Perm (awL.take (k + 1)) by
        rw [List.take_add_one, hx]
        exact (List.perm_append_singleton x (awL.take k)).symm)
      have HPQ := hid hp
      obtain ⟨x0, x1, x2⟩ := x
      unfold itv at HPU
      dsimp only at *
      have hki : (k : Int) < 3 := by omega
      obtain ⟨w3, hw3⟩ : ∃ w3, w3 = wr.alloc (.cells #[.int .u32 x0, .int .u8 x1, .int .u32 x2] 32) := ⟨_, rfl⟩
      have hb3 : Below wr.heap.size wr w3 := by rw [hw3]; exact (Below.refl _ _).alloc (Nat.le_refl _) _
      have HRA := hid (HR.out.below hb3)
      have HB3 := hid hb3
      have HW3 := hid hw3
      rw [hw3] at HRA
      have hlo : w.heap.size ≤ (wr.alloc (.cells #[.int .u32 x0, .int .u8 x1, .int .u32 x2] 32)).heap.size := by rw [World.size_alloc]; omega
      have HLO := hid hlo
      clear hx hkx hne hxi hlen hpn hR hh hp hrow hown hB hb3 hw3 hlo
      go_wp2_with (first | (go_at_call 8; (with_reducible refine (HPU.out _ HRA.out HLO.out).mono ?_); rintro e w5 ⟨rfl, v5, q5, hr5, hh5, hp5, hk5, ho5⟩; have HR5 := hid hr5; have HH5 := hid hh5; have HP5 := hid hp5; have HK5 := hid hk5; have HO5 := hid ho5; clear hr5 hh5 hp5 hk5 ho5) | fail)
      go_roundw
      case rel =>
        have hk5 := HK5.out
        rw [← HW3.out] at hk5
        have ha : w3.heap[ga]? = wr.heap[ga]? := HB3.out.block ga (by omega)
        refine ⟨k + 1, v5, q5, by go_num, hlt, HR5.out, HH5.out, (HP5.out.trans (HPQ.out.cons _)).trans HTK.out, ?_, fun p hp => ?_, ?_⟩
        · refine ((hk5.block ga (by have := HB3.out.size; omega) ?_).trans ha).trans HRW.out
          rintro (h | h | h)
          · omega
          · omega
          · have := HOW.out ga h; omega
        · rcases HO5.out p hp with h | h
          · exact HOW.out p h
          · have := h; rw [World.size_alloc] at this; omega
        · exact (HB.out.trans (HB3.out.mono (by have := HB.out.size; omega))).trans (hk5.lo (by have := HB.out.size; have := HB3.out.size; omega) (fun k hk => HR.out.hb k hk))
      case measure => simp [intOf]; omega
    · have e : k = 3 := by omega
      subst e
      have hki : ¬ ((3 : Nat) : Int) < 3 := by omega
      have HP0 := hid (hp.trans aw_perm)
      have HH := hid hh
      clear hR hh hp hrow hown hB hlt
      go_wp2_with fail
      have hx1 : it q 0 = (2, 3, 0) := root_first HH.out HP0.out (by decide)
      have HPO1 := hid (by have h1 := pop11_yes wr w.heap.size (w.heap.size + 1) w.heap.size v q 2 HR.out HH.out (by rw [(HP0.out).length_eq]; rfl); rw [hx1] at h1; exact h1)
      have HPQ1 := hid (show ∀ r, ((2, 3, 0) :: r).Perm q → r.Perm [(3, 3, 0), (1, 0, 0)] from fun r hr => (hr.trans HP0.out).cons_inv)
      unfold itv at HPO1
      dsimp only at HPO1
      clear hx1
      (with_reducible refine HPO1.out.mono ?_)
      rintro e p1 ⟨rfl, v1, q1, hr1, hh1, hp1, hk1, ho1⟩
      go_wp2_with fail
      obtain ⟨z1, hz1⟩ : ∃ z, z = p1.alloc (.cells #[.int .u32 2, .int .u8 3, .int .u32 0] 32) := ⟨_, rfl⟩
      have hbz1 : Below p1.heap.size p1 z1 := by rw [hz1]; exact (Below.refl _ _).alloc (Nat.le_refl _) _
      obtain ⟨g1, hg1⟩ : ∃ g, g = p1.heap.size := ⟨_, rfl⟩
      have hG1 : z1.heap[g1]? = some (.cells #[.int .u32 2, .int .u8 3, .int .u32 0] 32 (0, 0)) := by rw [hz1, hg1]; exact heap_alloc_new _ _
      have hsz1 : z1.heap.size = g1 + 1 := by rw [hz1, hg1]; simp
      rw [← hz1, ← hg1]
      have HRz1 := hid (hr1.below hbz1)
      have HHz1 := hid hh1
      have HPz1 := hid (HPQ1.out q1 hp1)
      have hlo1 : w.heap.size + 1 < p1.heap.size := hr1.lt
      have HNz1 := hid (show ∀ k, Hb (w.heap.size + 1) w.heap.size v1 k → k < g1 from by
        rintro k (e | e | e)
        · omega
        · omega
        · have := (World.ownsRow.lt hr1.own k e).2; omega)
      have HKz1 := hid (show Keeps (Hb (w.heap.size + 1) w.heap.size v) wr z1 from keeps_below hk1 hbz1)
      have HGz1 := hid hG1
      have HSz1 := hid hsz1
      have HOz1 := hid ho1
      clear hz1 hbz1 hg1 hG1 hr1 hh1 hp1 hk1 ho1 hlo1
      have hx2 : it q1 0 = (3, 3, 0) := root_first HHz1.out HPz1.out (by decide)
      have HPO2 := hid (by have h1 := pop11_yes z1 w.heap.size (w.heap.size + 1) w.heap.size v1 q1 1 HRz1.out HHz1.out (by rw [(HPz1.out).length_eq]; rfl); rw [hx2] at h1; exact h1)
      have HPQ2 := hid (show ∀ r, ((3, 3, 0) :: r).Perm q1 → r.Perm [(1, 0, 0)] from fun r hr => (hr.trans HPz1.out).cons_inv)
      unfold itv at HPO2
      dsimp only at HPO2
      clear hx2
      (with_reducible refine HPO2.out.mono ?_)
      rintro e p2 ⟨rfl, v2, q2, hr2, hh2, hp2, hk2, ho2⟩
      go_wp2_with fail
      obtain ⟨z2, hz2⟩ : ∃ z, z = p2.alloc (.cells #[.int .u32 3, .int .u8 3, .int .u32 0] 32) := ⟨_, rfl⟩
      have hbz2 : Below p2.heap.size p2 z2 := by rw [hz2]; exact (Below.refl _ _).alloc (Nat.le_refl _) _
      obtain ⟨g2, hg2⟩ : ∃ g, g = p2.heap.size := ⟨_, rfl⟩
      have hG2 : z2.heap[g2]? = some (.cells #[.int .u32 3, .int .u8 3, .int .u32 0] 32 (0, 0)) := by rw [hz2, hg2]; exact heap_alloc_new _ _
      have hsz2 : z2.heap.size = g2 + 1 := by rw [hz2, hg2]; simp
      rw [← hz2, ← hg2]
      have HRz2 := hid (hr2.below hbz2)
      have HHz2 := hid hh2
      have HPz2 := hid (HPQ2.out q2 hp2)
      have hlo2 : w.heap.size + 1 < p2.heap.size := hr2.lt
      have HNz2 := hid (show ∀ k, Hb (w.heap.size + 1) w.heap.size v2 k → k < g2 from by
        rintro k (e | e | e)
        · omega
        · omega
        · have := (World.ownsRow.lt hr2.own k e).2; omega)
      have HKz2 := hid (show Keeps (Hb (w.heap.size + 1) w.heap.size v1) z1 z2 from keeps_below hk2 hbz2)
      have HGz2 := hid hG2
      have HSz2 := hid hsz2
      have HOz2 := hid ho2
      clear hz2 hbz2 hg2 hG2 hr2 hh2 hp2 hk2 ho2 hlo2
      have hx3 : it q2 0 = (1, 0, 0) := root_first HHz2.out HPz2.out (by decide)
      have HPO3 := hid (by have h1 := pop11_yes z2 w.heap.size (w.heap.size + 1) w.heap.size v2 q2 0 HRz2.out HHz2.out (by rw [(HPz2.out).length_eq]; rfl); rw [hx3] at h1; exact h1)
      have HPQ3 := hid (show ∀ r, ((1, 0, 0) :: r).Perm q2 → r.Perm [] from fun r hr => (hr.trans HPz2.out).cons_inv)
      unfold itv at HPO3
      dsimp only at HPO3
      clear hx3
      (with_reducible refine HPO3.out.mono ?_)
      rintro e p3 ⟨rfl, v3, q3, hr3, hh3, hp3, hk3, ho3⟩
      go_upto_region 11 with (fail)
      obtain ⟨z3, hz3⟩ : ∃ z, z = p3.alloc (.cells #[.int .u32 1, .int .u8 0, .int .u32 0] 32) := ⟨_, rfl⟩
      have hbz3 : Below p3.heap.size p3 z3 := by rw [hz3]; exact (Below.refl _ _).alloc (Nat.le_refl _) _
      obtain ⟨g3, hg3⟩ : ∃ g, g = p3.heap.size := ⟨_, rfl⟩
      have hG3 : z3.heap[g3]? = some (.cells #[.int .u32 1, .int .u8 0, .int .u32 0] 32 (0, 0)) := by rw [hz3, hg3]; exact heap_alloc_new _ _
      have hsz3 : z3.heap.size = g3 + 1 := by rw [hz3, hg3]; simp
      rw [← hz3, ← hg3]
      have HRz3 := hid (hr3.below hbz3)
      have HHz3 := hid hh3
      have HPz3 := hid (HPQ3.out q3 hp3)
      have hlo3 : w.heap.size + 1 < p3.heap.size := hr3.lt
      have HNz3 := hid (show ∀ k, Hb (w.heap.size + 1) w.heap.size v3 k → k < g3 from by
        rintro k (e | e | e)
        · omega
        · omega
        · have := (World.ownsRow.lt hr3.own k e).2; omega)
      have HKz3 := hid (show Keeps (Hb (w.heap.size + 1) w.heap.size v2) z2 z3 from keeps_below hk3 hbz3)
      have HGz3 := hid hG3
      have HSz3 := hid hsz3
      have HOz3 := hid ho3
      clear hz3 hbz3 hg3 hG3 hr3 hh3 hp3 hk3 ho3 hlo3
      have HNy := hid (show ∀ k, Hb (w.heap.size + 1) w.heap.size v2 k → k < g1 from by
        rintro k (e | e | e)
        · exact HNz1.out k (.inl e)
        · exact HNz1.out k (.inr (.inl e))
        · exact HNz1.out k (.inr (.inr (by rw [← HOz2.out]; exact e))))
      have hG1 := (HKz3.out.block g1 (by have := HKz2.out.size; have := HSz1.out; omega) (fun h => by have := HNy.out g1 h; omega)).trans ((HKz2.out.block g1 (by have := HSz1.out; omega) (fun h => by have := HNz1.out g1 h; omega)).trans HGz1.out)
      have hG2 := (HKz3.out.block g2 (by have := HSz2.out; omega) (fun h => by have := HNz2.out g2 h; omega)).trans HGz2.out
      have e1 : z3.cell? ⟨g1, 0, none⟩ = some (.int .u32 2) := (cell_of_row _ _ _ _ _ _ hG1).trans rfl
      have e2 : z3.cell? ⟨g2, 0, none⟩ = some (.int .u32 3) := (cell_of_row _ _ _ _ _ _ hG2).trans rfl
      have e3 : z3.cell? ⟨g3, 0, none⟩ = some (.int .u32 1) := (cell_of_row _ _ _ _ _ _ HGz3.out).trans rfl
      have HLE := hid (by have h1 := len11_any z3 w.heap.size (w.heap.size + 1) w.heap.size v3 q3 HRz3.out; rw [HPz3.out.length_eq] at h1; exact h1)
      have HBF := hid (((HB.out.trans (HKz1.out.lo HB.out.size HR.out.hb)).trans (HKz2.out.lo (Nat.le_trans HB.out.size HKz1.out.size) HRz1.out.hb)).trans (HKz3.out.lo (Nat.le_trans (Nat.le_trans HB.out.size HKz1.out.size) HKz2.out.size) HRz2.out.hb))
      clear hG1 hG2
      go_wp2_with (first | (go_at_call 17; (with_reducible refine HLE.out.mono ?_); rintro e z4 ⟨rfl, rfl⟩) | fail)
      go_ret
      exact ⟨rfl, HBF.out⟩

end Go.Proofs.Ytcgfechodbmimaa
