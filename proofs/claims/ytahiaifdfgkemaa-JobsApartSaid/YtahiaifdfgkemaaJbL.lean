/-
  A table: New, Next, living.
-/
import Derived.Test.YtahiaifdfgkemaaJbT
namespace Go.Proofs.Ytahiaifdfgkemaa
open Go.RowKit
set_option linter.unusedVariables false
set_option linter.unusedSimpArgs false

def newTb (n : Nat) : Tb := ⟨n, 0, [], [], List.replicate 8 Note.R.zero⟩

set_option maxRecDepth 100000 in
set_option maxHeartbeats 1000000 in
theorem jnew_any (n : Nat) (w : World) (h1 : 1 ≤ n) (h2 : n ≤ 16) :
    Calls Try.prog 7 #[.int .i64 (n : Int)] w fun e w' => e = .returned (.tuple #[.pointer (some ⟨w.heap.size, 0, none⟩), .int .i64 0]) ∧ TbAt w' w.heap.size w.heap.size (.slice none 0 0) (.slice none 0 0) (newTb n) ∧ Below w.heap.size w w' := by
  have d1 : decide ((n : Int) < 1) = false := decide_eq_false (by omega)
  have d2 : decide ((n : Int) > 16) = false := decide_eq_false (by omega)
  have d3 : ¬ (n : Int) < 1 := by omega
  have d4 : ¬ (16 : Int) < (n : Int) := by omega
  obtain ⟨w1, hw1⟩ : ∃ w1, w1 = w.alloc (.cells (tcel (newTb n) (.slice none 0 0) (.slice none 0 0)).toArray 58) := ⟨_, rfl⟩
  have HB := hid (show Below w.heap.size w w1 by rw [hw1]; exact (Below.refl _ w).alloc (Nat.le_refl _) _)
  have HT := hid (show TbAt w1 w.heap.size w.heap.size (.slice none 0 0) (.slice none 0 0) (newTb n) from ⟨by rw [hw1]; exact heap_alloc_new w _, World.ownsRow_nil _ _ _ _, World.ownsRow_nil _ _ _ _, (fun k e => (by cases e)), Nat.le_refl _, Nat.zero_le _, Nat.zero_le _, rfl⟩)
  have HW := hid hw1
  clear h1 h2 hw1
  go_enter Try.func7, Try.ntmps7
  go_wp2_with fail
  go_ret2
  refine ⟨rfl, ?_, ?_⟩
  · have := HT.out; rw [HW.out] at this; exact this
  · have := HB.out; rw [HW.out] at this; exact this

set_option maxRecDepth 100000 in
set_option maxHeartbeats 1000000 in
theorem jnext_any (w : World) (lo b : Nat) (va vo : Value) (t : Tb) (h : TbAt w lo b va vo t) (hl : t.last < 1000000) :
    Calls Try.prog 8 #[.pointer (some ⟨b, 0, none⟩)] w fun e w' => e = .returned (.int .u32 ((t.last + 1 : Nat) : Int)) ∧ w = w' := by
  have c1 := h.c1
  have hw : IntKind.u32.wrap ((t.last : Int) + 1) = ((t.last + 1 : Nat) : Int) := by rw [IntKind.wrap_u32]; omega
  clear h
  generalize t.last = m at *
  have HL := hid hl
  clear hl
  go_enter Try.func8, Try.ntmps8
  go_wp2
  go_ret
  exact ⟨rfl, rfl⟩

/-- What living answers: over; none; or where it stands. -/
def Liv (va : Value) (t : Tb) (z : Nat) (p : Option Addr) (er : Int) : Prop :=
  ((∃ i, pos t.over z = some i) ∧ p = none ∧ er = 10) ∨ (pos t.over z = none ∧ pos t.act z = none ∧ p = none ∧ er = 6) ∨
  (pos t.over z = none ∧ er = 0 ∧ ∃ i x g c, pos t.act z = some i ∧ t.act[i]? = some x ∧ x.1 = z ∧ va = .slice (some ⟨g, 0, none⟩) t.act.length c ∧ p = some ⟨g, i * 6, none⟩)
theorem posI_some {l : List Jb} {z i : Nat} (h : pos l z = some i) : posI l z = (i : Int) := by unfold posI; rw [h]
theorem posI_none {l : List Jb} {z : Nat} (h : pos l z = none) : posI l z = -1 := by unfold posI; rw [h]

set_option maxRecDepth 100000 in
set_option maxHeartbeats 2000000 in
theorem living_any (w : World) (lo b z : Nat) (va vo : Value) (t : Tb) (h : TbAt w lo b va vo t) :
    Calls Try.prog 23 #[.pointer (some ⟨b, 0, none⟩), .int .u32 (z : Int)] w fun e w' => ∃ p er, e = .returned (.tuple #[.pointer p, .int .i64 er]) ∧ Liv va t z p er ∧ Below w.heap.size w w' := by
  have HPA := hid (fun W (hb : Below w.heap.size w W) => place_any W va t.act z ((OwnJ.rd h.oa).below hb) (by have := h.la; omega))
  have HPO := hid (place_any w vo t.over z (OwnJ.rd h.oo) (by have := h.lv; omega))
  have c3 := h.c3
  have H := hid h
  have hlb := h.lt
  clear h
  rcases hpo : pos t.over z with _ | i
  · rw [posI_none hpo] at HPO
    rcases hpa : pos t.act z with _ | i
    · rw [posI_none hpa] at HPA
      have HO := hid hpo
      have HA := hid hpa
      clear hpo hpa
      go_enter Try.func23, Try.ntmps23
      go_wp2_with fail
      refine HPO.out.mono ?_
      rintro e w1 ⟨rfl, hb1⟩
      have c2 : w1.cell? ⟨b, 2, none⟩ = some va := (hb1.cell (p := ⟨b, 2, none⟩) hlb).trans H.out.c2
      have HB1 := hid hb1
      clear hb1 c3
      go_wp2_with fail
      refine (HPA.out _ HB1.out).mono ?_
      rintro e w2 ⟨rfl, hb2⟩
      have HB2 := hid (HB1.out.trans (hb2.mono HB1.out.size))
      clear hb2 c2
      go_wp2_with fail
      go_ret2
      exact ⟨none, 6, rfl, .inr (.inl ⟨HO.out, HA.out, rfl, rfl⟩), HB2.out⟩
    · rw [posI_some hpa] at HPA
      obtain ⟨x, hx, hxz, -⟩ := pos_some hpa
      have hil := (List.getElem?_eq_some_iff.1 hx).1
      obtain ⟨g, c, ev, hc1, hc2⟩ : ∃ g c, va = .slice (some ⟨g, 0, none⟩) t.act.length c ∧ t.act.length ≤ c ∧ c ≤ 9223372036854775807 := by
        rcases owns_shape H.out.oa with ⟨_, h0⟩ | ⟨g, c, e, _, _, h3, h4⟩
        · omega
        · exact ⟨g, c, e, h3, h4⟩
      subst ev
      have HO := hid hpo
      have HA := hid hpa
      have HX := hid hx
      have hii : (i : Int) < (t.act.length : Int) := by omega
      have HZ := hid hxz
      clear hpo hpa hx hxz hil
      obtain ⟨n, hn⟩ : ∃ n, n = t.act.length := ⟨_, rfl⟩
      rw [← hn] at hii hc1 HPA ⊢
      have HN := hid hn
      have HC2 := hid (show ∀ W, Below w.heap.size w W → W.cell? ⟨b, 2, none⟩ = some (.slice (some ⟨g, 0, none⟩) n c) from fun W hb => by rw [hn]; exact (hb.cell (p := ⟨b, 2, none⟩) hlb).trans H.out.c2)
      clear hn
      go_enter Try.func23, Try.ntmps23
      go_wp2_with fail
      refine HPO.out.mono ?_
      rintro e w1 ⟨rfl, hb1⟩
      have c2 := HC2.out w1 hb1
      have HB1 := hid hb1
      clear hb1 c3
      go_wp2_with fail
      refine (HPA.out _ HB1.out).mono ?_
      rintro e w2 ⟨rfl, hb2⟩
      have HB2 := hid (HB1.out.trans (hb2.mono HB1.out.size))
      have c2' := HC2.out w2 HB2.out
      clear hb2 c2
      go_wp2_with fail
      go_ret2
      exact ⟨some ⟨g, i * 6, none⟩, 0, (by first | rfl | simp), .inr (.inr ⟨HO.out, rfl, i, x, g, c, HA.out, HX.out, HZ.out, by rw [HN.out], rfl⟩), HB2.out⟩
  · rw [posI_some hpo] at HPO
    have HO := hid hpo
    clear hpo
    go_enter Try.func23, Try.ntmps23
    go_wp2_with fail
    refine HPO.out.mono ?_
    rintro e w1 ⟨rfl, hb1⟩
    have HB1 := hid hb1
    clear hb1 c3
    go_wp2_with fail
    go_ret2
    exact ⟨none, 10, rfl, .inl ⟨⟨i, HO.out⟩, rfl, rfl⟩, HB1.out⟩

end Go.Proofs.Ytahiaifdfgkemaa
