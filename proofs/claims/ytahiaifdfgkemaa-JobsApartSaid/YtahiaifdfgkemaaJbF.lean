/-
  Finish, Credit, cancel.
-/
import Derived.Test.YtahiaifdfgkemaaJbE
namespace Go.Proofs.Ytahiaifdfgkemaa
open Go.RowKit
set_option linter.unusedVariables false
set_option linter.unusedSimpArgs false

theorem pos_map (l : List Jb) (z : Nat) : pos l z = (l.map (·.1)).findIdx? (· == z) := by
  unfold pos
  rw [List.findIdx?_map]
  rfl
theorem map_set_id {l : List Jb} {i : Nat} {x y : Jb} (hx : l[i]? = some x) (e : y.1 = x.1) : (l.set i y).map (·.1) = l.map (·.1) := by
  rw [List.map_set, e]
  apply List.ext_getElem?
  intro j
  rw [List.getElem?_set]
  by_cases h : i = j
  · subst h
    have hi := (List.getElem?_eq_some_iff.1 hx).1
    rw [if_pos rfl, if_pos (by simpa using hi), List.getElem?_map, hx]; rfl
  · rw [if_neg h]
theorem pos_set {l : List Jb} {i : Nat} {x y : Jb} (hx : l[i]? = some x) (e : y.1 = x.1) (z : Nat) : pos (l.set i y) z = pos l z := by
  rw [pos_map, pos_map, map_set_id hx e]

def Tb.at (t : Tb) (z : Nat) : Int × Option (Nat × Jb) :=
  match pos t.over z with
  | some _ => (10, none)
  | none => match pos t.act z with
    | none => (6, none)
    | some i => match t.act[i]? with
      | none => (6, none)
      | some x => (0, some (i, x))
theorem at_cases (t : Tb) (z : Nat) : ((∃ i, pos t.over z = some i) ∧ t.at z = (10, none)) ∨ (pos t.over z = none ∧ pos t.act z = none ∧ t.at z = (6, none)) ∨ (pos t.over z = none ∧ ∃ i x, pos t.act z = some i ∧ t.act[i]? = some x ∧ x.1 = z ∧ t.at z = (0, some (i, x))) := by
  unfold Tb.at
  rcases hpo : pos t.over z with _ | k
  · rcases hpa : pos t.act z with _ | i
    · exact .inr (.inl ⟨rfl, rfl, rfl⟩)
    · obtain ⟨x, hx, hz, -⟩ := pos_some hpa
      exact .inr (.inr ⟨rfl, i, x, rfl, hx, hz, by simp only [hx]⟩)
  · exact .inl ⟨⟨k, rfl⟩, rfl⟩
def Tb.finish (t : Tb) (z : Nat) : Int × Tb :=
  match t.at z with
  | (_, some (i, x)) => (0, t.ended i (x.1, x.2.1, x.2.2.1, x.2.2.2.1, 4, x.2.2.2.1))
  | (e, none) => (e, t)
def Tb.cancel (t : Tb) (z : Nat) : (Nat × Int) × Tb :=
  match t.at z with
  | (_, some (i, x)) => ((z, 0), t.ended i (x.1, x.2.1, x.2.2.1, x.2.2.2.1, 5, x.2.2.2.2.2))
  | (e, none) => ((0, e), t)
def Tb.credit (t : Tb) (z : Nat) (n : Int) : Int × Tb :=
  match t.at z with
  | (_, some (i, x)) => if n < 0 ∨ x.2.2.2.1 < n then (1, t) else if n < x.2.2.2.2.2 then (12, t) else (0, { t with act := t.act.set i (x.1, x.2.1, x.2.2.1, x.2.2.2.1, x.2.2.2.2.1, n) })
  | (e, none) => (e, t)

set_option maxRecDepth 100000 in
set_option maxHeartbeats 4000000 in
theorem cancel_any (w : World) (lo b z : Nat) (va vo : Value) (t : Tb) (h : TbAt w lo b va vo t) (hv : t.over.length ≤ 64) (hlo : lo ≤ w.heap.size) :
    Calls Try.prog 36 #[.pointer (some ⟨b, 0, none⟩), .int .u32 (z : Int)] w fun e w' => e = .returned (.tuple #[.int .u32 ((t.cancel z).1.1 : Int), .int .i64 (t.cancel z).1.2]) ∧ ∃ va' vo', Stp w lo b va vo w' va' vo' (t.cancel z).2 := by
  have HLI := hid (living_any w lo b z va vo t h)
  have H := hid h
  clear h
  go_enter Try.func36, Try.ntmps36
  go_wp2_with fail
  refine HLI.out.mono ?_
  rintro e w1 ⟨p, er, rfl, hl, hb1⟩
  have HB1 := hid hb1
  clear hb1
  rcases hl with ⟨⟨i, hi⟩, rfl, rfl⟩ | ⟨h1, h2, rfl, rfl⟩ | ⟨h1, rfl, i, x, g, c, h2, hx, hz, rfl, rfl⟩
  · have HE := hid (show t.cancel z = ((0, 10), t) by unfold Tb.cancel Tb.at; rw [hi])
    clear hi
    go_wp2_with fail
    go_ret2
    refine ⟨?_, va, vo, ?_⟩
    · rw [HE.out]; rfl
    · rw [HE.out]; exact Stp.of_below H.out HB1.out
  · have HE := hid (show t.cancel z = ((0, 6), t) by unfold Tb.cancel Tb.at; rw [h1, h2])
    clear h1 h2
    go_wp2_with fail
    go_ret2
    refine ⟨?_, va, vo, ?_⟩
    · rw [HE.out]; rfl
    · rw [HE.out]; exact Stp.of_below H.out HB1.out
  · subst hz
    have HE := hid (show t.cancel x.1 = ((x.1, 0), t.ended i (x.1, x.2.1, x.2.2.1, x.2.2.2.1, 5, x.2.2.2.2.2)) by unfold Tb.cancel Tb.at; rw [h1, h2]; simp only [hx])
    have HEN := hid (end_any w1 lo b i 5 _ vo t x (H.out.below HB1.out) h2 hx hv (by have := HB1.out.size; omega))
    clear h1 h2 hx
    go_wp2_with fail
    refine HEN.out.mono ?_
    rintro e w2 ⟨rfl, va', vo', hs⟩
    have HS := hid (hs.behind H.out HB1.out)
    clear hs
    go_wp2_with fail
    go_ret2
    refine ⟨?_, va', vo', ?_⟩
    · rw [HE.out]; rfl
    · rw [HE.out]; exact HS.out

set_option maxRecDepth 100000 in
set_option maxHeartbeats 4000000 in
theorem finish_any (w : World) (lo b z : Nat) (va vo : Value) (t : Tb) (h : TbAt w lo b va vo t) (hv : t.over.length ≤ 64) (hlo : lo ≤ w.heap.size) :
    Calls Try.prog 10 #[.pointer (some ⟨b, 0, none⟩), .int .u32 (z : Int)] w fun e w' => e = .returned (.int .i64 (t.finish z).1) ∧ ∃ va' vo', Stp w lo b va vo w' va' vo' (t.finish z).2 := by
  have HLI := hid (living_any w lo b z va vo t h)
  have H := hid h
  clear h
  go_enter Try.func10, Try.ntmps10
  go_wp2_with fail
  refine HLI.out.mono ?_
  rintro e w1 ⟨p, er, rfl, hl, hb1⟩
  have HB1 := hid hb1
  clear hb1
  rcases hl with ⟨⟨i, hi⟩, rfl, rfl⟩ | ⟨h1, h2, rfl, rfl⟩ | ⟨h1, rfl, i, x, g, c, h2, hx, hz, rfl, rfl⟩
  · have HE := hid (show t.finish z = (10, t) by unfold Tb.finish Tb.at; rw [hi])
    clear hi
    go_wp2_with fail
    go_ret
    refine ⟨?_, va, vo, ?_⟩
    · rw [HE.out]; rfl
    · rw [HE.out]; exact Stp.of_below H.out HB1.out
  · have HE := hid (show t.finish z = (6, t) by unfold Tb.finish Tb.at; rw [h1, h2])
    clear h1 h2
    go_wp2_with fail
    go_ret
    refine ⟨?_, va, vo, ?_⟩
    · rw [HE.out]; rfl
    · rw [HE.out]; exact Stp.of_below H.out HB1.out
  · subst hz
    obtain ⟨x0, x1, x2, x3, x4, x5⟩ := x
    dsimp only at *
    have HE := hid (show t.finish x0 = (0, t.ended i (x0, x1, x2, x3, 4, x3)) by unfold Tb.finish Tb.at; rw [h1, h2]; simp only [hx])
    have h1' := H.out.below HB1.out
    obtain ⟨b0, off, c', ev, -, -, hbl, f0, f1, f2, f3, f4, f5⟩ := RdJ.item (OwnJ.rd h1'.oa) hx
    simp only [Value.slice.injEq, Option.some.injEq, Addr.mk.injEq] at ev
    obtain ⟨⟨rfl, rfl, -⟩, -, -⟩ := ev
    simp only [Nat.zero_add] at f3 f5
    clear f0 f1 f2 f4
    have z5 : w1.frozen? ⟨g, i * 6 + 5, none⟩ = false := owns_frozen h1'.oa _
    have hp := h1'.putJob (v := .int .i64 x3) (c := 5) (y := (x0, x1, x2, x3, x4, x3)) hx rfl (by omega)
    obtain ⟨w2, hw2⟩ : ∃ w2, w2 = w1.setCell ⟨g, i * 6 + 5, none⟩ (.int .i64 x3) := ⟨_, rfl⟩
    rw [← hw2] at hp
    have hst : Stp w1 lo b (.slice (some ⟨g, 0, none⟩) t.act.length c) vo w2 (.slice (some ⟨g, 0, none⟩) t.act.length c) vo { t with act := t.act.set i (x0, x1, x2, x3, x4, x3) } := ⟨hp, by rw [hw2]; exact (kset1 w1 g _ _).mono (fun k _ e => .inr (.inl (by rw [e]; rfl))), fun k e => .inl e, fun k e => .inl e⟩
    have HST := hid (hst.behind H.out HB1.out)
    have hil := (List.getElem?_eq_some_iff.1 hx).1
    have HEN := hid (end_any w2 lo b i 4 _ vo _ (x0, x1, x2, x3, x4, x3) hp ((pos_set (y := (x0, x1, x2, x3, x4, x3)) hx rfl _).trans h2) (by show (t.act.set i _)[i]? = _; rw [List.getElem?_set, if_pos rfl, if_pos hil]) hv (by have := hst.k.size; have := HB1.out.size; omega))
    have HEQ := hid (show ({ t with act := t.act.set i (x0, x1, x2, x3, x4, x3) } : Tb).ended i (x0, x1, x2, x3, 4, x3) = t.ended i (x0, x1, x2, x3, 4, x3) by unfold Tb.ended; simp only [List.eraseIdx_set_eq])
    have HW := hid hw2
    clear h1 h2 hx h1' hp hw2 hst hil hbl
    go_wp2_with fail
    rw [← HW.out]
    clear f3 f5 z5
    refine HEN.out.mono ?_
    rintro e w3 ⟨rfl, va', vo', hs⟩
    have HS := hid (HST.out.trans hs)
    clear hs
    go_wp2_with fail
    go_ret
    refine ⟨?_, va', vo', ?_⟩
    · rw [HE.out]; rfl
    · rw [HE.out]; have := HS.out; rw [HEQ.out] at this; exact this

end Go.Proofs.Ytahiaifdfgkemaa
