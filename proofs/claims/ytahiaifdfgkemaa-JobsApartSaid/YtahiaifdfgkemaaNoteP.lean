/-
  Plain words: what a reader that goes field by field has found.
-/
import Derived.Test.YtahiaifdfgkemaaNoteD
namespace Go.Proofs.Ytahiaifdfgkemaa.Note
open Ink (stNum)

theorem u64_inj2 (a b : Int) (ha : -9223372036854775808 ≤ a) (ha2 : a < 9223372036854775808) (hb : -9223372036854775808 ≤ b) (hb2 : b < 9223372036854775808) (h : u64 a = u64 b) : a = b := by
  unfold u64 at h
  omega

theorem N.ns_inj (x y : N) (hx : x.wf) (hy : y.wf) (h : x.ns = y.ns) (hb : x.b = y.b) : x = y := by
  obtain ⟨x0, x1, x2, x3, x4, x5, x6, x7, x8, x9, x10, x11, x12⟩ := hx
  obtain ⟨y0, y1, y2, y3, y4, y5, y6, y7, y8, y9, y10, y11, y12⟩ := hy
  simp only [N.ns, List.cons.injEq, and_true] at h
  obtain ⟨e0, e1, e2, e3, e4, e5, e6, e7, e8, e9, e10, e11⟩ := h
  have g9 := u64_inj2 _ _ x9 x10 y9 y10 e9
  cases x; cases y
  simp only at *
  subst e0 e1 e2 e3 e4 e5 e6 e7 e8 g9 e10 e11 hb
  rfl

theorem N.no_tag {t : List UInt8} {n0 : Nat} {s0 : Option (List UInt8)} (h : stNum (some t) = (n0, s0)) (hn : n0 ≠ 1) : ∀ y, N.ok y → t ≠ y.enc := by
  intro y hy e
  obtain ⟨a1, _, _⟩ := read_back (tag := 1) (b := (some y.b)) (by omega) (N.fit y hy.1 hy.2) (fun z hz => some_len (by have := (N.right_of y hy.2); omega) hz)
  rw [e] at h
  exact hn (congrArg Prod.fst (h.symm.trans a1))

theorem N.found {t : List UInt8} {s0 : Option (List UInt8)} {x : N} {st1 st : St} (hx : x.wf) (h0 : stNum (some t) = (1, s0)) (h1 : run N.ks (s0, false) = (x.ns, st1)) (h2 : last true st1 = (some x.b, st)) :
    ∀ y, N.ok y → t = y.enc → x = y ∧ st = (some [], false) := by
  intro y hy e
  obtain ⟨a1, a2, a3⟩ := read_back (tag := 1) (b := (some y.b)) (by omega) (N.fit y hy.1 hy.2) (fun z hz => some_len (by have := (N.right_of y hy.2); omega) hz)
  rw [e] at h0
  have b1 := congrArg Prod.snd (h0.symm.trans a1)
  simp only at b1
  subst b1
  have b2 := h1.symm.trans a2
  simp only [Prod.mk.injEq] at b2
  obtain ⟨b2, rfl⟩ := b2
  have b3 := h2.symm.trans a3
  simp only [Prod.mk.injEq, Option.some.injEq] at b3
  exact ⟨N.ns_inj x y hx hy.1 b2 b3.1, b3.2⟩

theorem N.is {t : List UInt8} {s0 : Option (List UInt8)} {x : N} {st1 : St} (h0 : stNum (some t) = (1, s0)) (h1 : run N.ks (s0, false) = (x.ns, st1)) (h2 : last true st1 = (some x.b, (some [], false))) : t = x.enc :=
  (read_good h0 h1 h2).1


theorem Q.ns_inj (x y : Q) (hx : x.wf) (hy : y.wf) (h : x.ns = y.ns) : x = y := by
  obtain ⟨x0, x1, x2, x3, x4, x5, x6, x7, x8⟩ := hx
  obtain ⟨y0, y1, y2, y3, y4, y5, y6, y7, y8⟩ := hy
  simp only [Q.ns, List.cons.injEq, and_true] at h
  obtain ⟨e0, e1, e2, e3, e4, e5, e6⟩ := h
  have g4 := u64_inj2 _ _ x4 x5 y4 y5 e4
  have g5 := u64_inj2 _ _ x6 x7 y6 y7 e5
  cases x; cases y
  simp only at *
  subst e0 e1 e2 e3 g4 g5 e6
  rfl

theorem Q.no_tag {t : List UInt8} {n0 : Nat} {s0 : Option (List UInt8)} (h : stNum (some t) = (n0, s0)) (hn : n0 ≠ 2) : ∀ y, Q.ok y → t ≠ y.enc := by
  intro y hy e
  obtain ⟨a1, _, _⟩ := read_back (tag := 2) (b := none) (by omega) (Q.fit y hy.1 hy.2) (fun z hz => by cases hz)
  rw [e] at h
  exact hn (congrArg Prod.fst (h.symm.trans a1))

theorem Q.found {t : List UInt8} {s0 : Option (List UInt8)} {x : Q} {st1 st : St} (hx : x.wf) (h0 : stNum (some t) = (2, s0)) (h1 : run Q.ks (s0, false) = (x.ns, st1)) (h2 : last false st1 = (none, st)) :
    ∀ y, Q.ok y → t = y.enc → x = y ∧ st = (some [], false) := by
  intro y hy e
  obtain ⟨a1, a2, a3⟩ := read_back (tag := 2) (b := none) (by omega) (Q.fit y hy.1 hy.2) (fun z hz => by cases hz)
  rw [e] at h0
  have b1 := congrArg Prod.snd (h0.symm.trans a1)
  simp only at b1
  subst b1
  have b2 := h1.symm.trans a2
  simp only [Prod.mk.injEq] at b2
  obtain ⟨b2, rfl⟩ := b2
  have b3 := h2.symm.trans a3
  simp only [Prod.mk.injEq, true_and] at b3
  exact ⟨Q.ns_inj x y hx hy.1 b2, b3⟩

theorem Q.is {t : List UInt8} {s0 : Option (List UInt8)} {x : Q} {st1 : St} (h0 : stNum (some t) = (2, s0)) (h1 : run Q.ks (s0, false) = (x.ns, st1)) (h2 : last false st1 = (none, (some [], false))) : t = x.enc :=
  (read_good h0 h1 h2).1


theorem R.ns_inj (x y : R) (hx : x.wf) (hy : y.wf) (h : x.ns = y.ns) : x = y := by
  obtain ⟨x0, x1, x2, x3, x4, x5, x6, x7⟩ := hx
  obtain ⟨y0, y1, y2, y3, y4, y5, y6, y7⟩ := hy
  simp only [R.ns, List.cons.injEq, and_true] at h
  obtain ⟨e0, e1, e2, e3, e4, e5⟩ := h
  have g2 := u64_inj2 _ _ x2 x3 y2 y3 e2
  have g5 := u64_inj2 _ _ x6 x7 y6 y7 e5
  cases x; cases y
  simp only at *
  subst e0 e1 g2 e3 e4 g5
  rfl

theorem R.no_tag {t : List UInt8} {n0 : Nat} {s0 : Option (List UInt8)} (h : stNum (some t) = (n0, s0)) (hn : n0 ≠ 3) : ∀ y, R.ok y → t ≠ y.enc := by
  intro y hy e
  obtain ⟨a1, _, _⟩ := read_back (tag := 3) (b := none) (by omega) (R.fit y hy.1 hy.2) (fun z hz => by cases hz)
  rw [e] at h
  exact hn (congrArg Prod.fst (h.symm.trans a1))

theorem R.found {t : List UInt8} {s0 : Option (List UInt8)} {x : R} {st1 st : St} (hx : x.wf) (h0 : stNum (some t) = (3, s0)) (h1 : run R.ks (s0, false) = (x.ns, st1)) (h2 : last false st1 = (none, st)) :
    ∀ y, R.ok y → t = y.enc → x = y ∧ st = (some [], false) := by
  intro y hy e
  obtain ⟨a1, a2, a3⟩ := read_back (tag := 3) (b := none) (by omega) (R.fit y hy.1 hy.2) (fun z hz => by cases hz)
  rw [e] at h0
  have b1 := congrArg Prod.snd (h0.symm.trans a1)
  simp only at b1
  subst b1
  have b2 := h1.symm.trans a2
  simp only [Prod.mk.injEq] at b2
  obtain ⟨b2, rfl⟩ := b2
  have b3 := h2.symm.trans a3
  simp only [Prod.mk.injEq, true_and] at b3
  exact ⟨R.ns_inj x y hx hy.1 b2, b3⟩

theorem R.is {t : List UInt8} {s0 : Option (List UInt8)} {x : R} {st1 : St} (h0 : stNum (some t) = (3, s0)) (h1 : run R.ks (s0, false) = (x.ns, st1)) (h2 : last false st1 = (none, (some [], false))) : t = x.enc :=
  (read_good h0 h1 h2).1


theorem P.ns_inj (x y : P) (hx : x.wf) (hy : y.wf) (h : x.ns = y.ns) (hb : x.b = y.b) : x = y := by
  obtain ⟨x0, x1, x2, x3, x4⟩ := hx
  obtain ⟨y0, y1, y2, y3, y4⟩ := hy
  simp only [P.ns, List.cons.injEq, and_true] at h
  obtain ⟨e0, e1, e2, e3, e4, e5⟩ := h
  have g5 : x.p = y.p := by
    revert e5
    cases x.p <;> cases y.p <;> simp
  cases x; cases y
  simp only at *
  subst e0 e1 e2 e3 e4 g5 hb
  rfl

theorem P.no_tag {t : List UInt8} {n0 : Nat} {s0 : Option (List UInt8)} (h : stNum (some t) = (n0, s0)) (hn : n0 ≠ 4) : ∀ y, P.ok y → t ≠ y.enc := by
  intro y hy e
  obtain ⟨a1, _, _⟩ := read_back (tag := 4) (b := (some y.b)) (by omega) (P.fit y hy.1) (fun z hz => some_len (by have := (P.right_of y hy.2); omega) hz)
  rw [e] at h
  exact hn (congrArg Prod.fst (h.symm.trans a1))

theorem P.found {t : List UInt8} {s0 : Option (List UInt8)} {x : P} {st1 st : St} (hx : x.wf) (h0 : stNum (some t) = (4, s0)) (h1 : run P.ks (s0, false) = (x.ns, st1)) (h2 : last true st1 = (some x.b, st)) :
    ∀ y, P.ok y → t = y.enc → x = y ∧ st = (some [], false) := by
  intro y hy e
  obtain ⟨a1, a2, a3⟩ := read_back (tag := 4) (b := (some y.b)) (by omega) (P.fit y hy.1) (fun z hz => some_len (by have := (P.right_of y hy.2); omega) hz)
  rw [e] at h0
  have b1 := congrArg Prod.snd (h0.symm.trans a1)
  simp only at b1
  subst b1
  have b2 := h1.symm.trans a2
  simp only [Prod.mk.injEq] at b2
  obtain ⟨b2, rfl⟩ := b2
  have b3 := h2.symm.trans a3
  simp only [Prod.mk.injEq, Option.some.injEq] at b3
  exact ⟨P.ns_inj x y hx hy.1 b2 b3.1, b3.2⟩

theorem P.is {t : List UInt8} {s0 : Option (List UInt8)} {x : P} {st1 : St} (h0 : stNum (some t) = (4, s0)) (h1 : run P.ks (s0, false) = (x.ns, st1)) (h2 : last true st1 = (some x.b, (some [], false))) : t = x.enc :=
  (read_good h0 h1 h2).1


end Go.Proofs.Ytahiaifdfgkemaa.Note
