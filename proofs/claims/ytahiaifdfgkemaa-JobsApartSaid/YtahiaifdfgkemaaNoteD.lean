/-
  The four things of layer 4, in plain words: which are right, what is written of them.
-/
import Derived.Test.YtahiaifdfgkemaaNoteM
namespace Go.Proofs.Ytahiaifdfgkemaa.Note

/-- An int as its 64 bits. -/
def u64 (n : Int) : Nat := (n % 18446744073709551616).toNat
theorem u64_lt (n : Int) : u64 n < 18446744073709551616 := by unfold u64; omega
theorem u64_small (n : Int) (h : 0 ≤ n) (h2 : n < 9223372036854775808) : (u64 n : Int) = n := by unfold u64; omega
theorem u64_nat (n : Nat) (h : n < 9223372036854775808) : u64 (n : Int) = n := by unfold u64; omega

/-- A note. -/
structure N where
  k : Nat
  n : Nat
  e : Nat
  l : Nat
  t : Nat
  g : Nat
  j : Nat
  v : Nat
  r : Nat
  c : Int
  f : Nat
  o : Nat
  b : List UInt8

def N.zero : N := ⟨0, 0, 0, 0, 0, 0, 0, 0, 0, 0, 0, 0, []⟩
/-- Its fields fit their types. -/
def N.wf (x : N) : Prop := x.k < 256 ∧ x.n < 256 ∧ x.e < 4294967296 ∧ x.l < 4294967296 ∧ x.t < 4294967296 ∧ x.g < 4294967296 ∧ x.j < 4294967296 ∧ x.v < 4294967296 ∧ x.r < 256 ∧ -9223372036854775808 ≤ x.c ∧ x.c < 9223372036854775808 ∧ x.f < 4294967296 ∧ x.o < 4294967296
def N.ns (x : N) : List Nat := [x.k, x.n, x.e, x.l, x.t, x.g, x.j, x.v, x.r, u64 x.c, x.f, x.o]
def N.rest (x : N) : List Nat := [x.n, x.e, x.l, x.t, x.g, x.j, x.v, x.r, u64 x.c, x.f, x.o]
def M8 : Nat := 255
def M32 : Nat := 4294967295
def N.ks : List K := [.up M8, .up M8, .up M32, .up M32, .up M32, .up M32, .up M32, .up M32, .up M8, .int, .up M32, .up M32]

/-- Which fields behind Kind a kind names, as bits. -/
def may : Nat → Nat
  | 1 => 10
  | 2 => 15
  | 3 => 480
  | 4 => 32
  | 5 => 48
  | 6 => 16
  | 7 => 1584
  | 8 => 352
  | 9 => 2272
  | 10 => 32
  | 11 => 32
  | 12 => 40
  | _ => 0

/-- Which of these numbers aren't 0, as bits. -/
def bits : List Nat → Nat → Nat
  | [], _ => 0
  | x :: r, i => (if x ≠ 0 then 2 ^ i else 0) + bits r (i + 1)

/-- A note's fields that aren't 0, as bits. -/
def N.has (x : N) : Nat := bits (x.rest ++ [x.b.length]) 0

/-- What its kind doesn't name is 0. -/
def N.clear (x : N) : Bool := decide (x.has &&& (4095 - may x.k) = 0)

def N.right (x : N) : Bool := decide (1 ≤ x.k ∧ x.k ≤ 12) && x.clear && decide (x.n < 16) && decide (x.r < 16) && decide (0 ≤ x.c ∧ x.c ≤ 10000) && decide (x.b.length ≤ 1024)
def N.enc (x : N) : List UInt8 := Note.enc 1 x.ns (some x.b)

theorem N.right_of (x : N) (h : x.right = true) : (1 ≤ x.k ∧ x.k ≤ 12) ∧ x.clear = true ∧ x.n < 16 ∧ x.r < 16 ∧ (0 ≤ x.c ∧ x.c ≤ 10000) ∧ x.b.length ≤ 1024 := by
  unfold N.right at h
  simp only [Bool.and_eq_true, decide_eq_true_eq] at h
  obtain ⟨⟨⟨⟨⟨h1, h2⟩, h3⟩, h4⟩, h5⟩, h6⟩ := h
  exact ⟨h1, h2, h3, h4, h5, h6⟩

/-- A request. -/
structure Q where
  cl : Nat
  s : Nat
  k : Nat
  t : Nat
  kk : Int
  w : Int
  j : Nat
def Q.zero : Q := ⟨0, 0, 0, 0, 0, 0, 0⟩
def Q.wf (x : Q) : Prop := x.cl < 256 ∧ x.s < 4294967296 ∧ x.k < 256 ∧ x.t < 256 ∧ -9223372036854775808 ≤ x.kk ∧ x.kk < 9223372036854775808 ∧ -9223372036854775808 ≤ x.w ∧ x.w < 9223372036854775808 ∧ x.j < 4294967296
def Q.ns (x : Q) : List Nat := [x.cl, x.s, x.k, x.t, u64 x.kk, u64 x.w, x.j]
def Q.ks : List K := [.up M8, .up M32, .up M8, .up M8, .int, .int, .up M32]
def Q.right (x : Q) : Bool := decide (x.cl < 8) && decide (0 ≤ x.kk ∧ x.kk ≤ 2147483647) && decide (0 ≤ x.w ∧ x.w ≤ 2147483647) && (if x.k = 1 then decide (x.j = 0) else if x.k = 2 ∨ x.k = 3 then decide (x.t = 0) && decide (x.kk = 0) && decide (x.w = 0) else false)
def Q.enc (x : Q) : List UInt8 := Note.enc 2 x.ns none

/-- A reply. -/
structure R where
  cl : Nat
  s : Nat
  e : Int
  j : Nat
  st : Nat
  c : Int
def R.zero : R := ⟨0, 0, 0, 0, 0, 0⟩
def R.wf (x : R) : Prop := x.cl < 256 ∧ x.s < 4294967296 ∧ -9223372036854775808 ≤ x.e ∧ x.e < 9223372036854775808 ∧ x.j < 4294967296 ∧ x.st < 256 ∧ -9223372036854775808 ≤ x.c ∧ x.c < 9223372036854775808
def R.ns (x : R) : List Nat := [x.cl, x.s, u64 x.e, x.j, x.st, u64 x.c]
def R.ks : List K := [.up M8, .up M32, .int, .up M32, .up M8, .int]
def R.right (x : R) : Bool := decide (x.cl < 8) && decide (0 ≤ x.e ∧ x.e ≤ 16) && decide (x.st ≤ 5) && decide (0 ≤ x.c ∧ x.c ≤ 10000)
def R.enc (x : R) : List UInt8 := Note.enc 3 x.ns none

/-- A packet. -/
structure P where
  n : Nat
  e : Nat
  l : Nat
  s : Nat
  a : Nat
  p : Bool
  b : List UInt8
def P.zero : P := ⟨0, 0, 0, 0, 0, false, []⟩
def P.wf (x : P) : Prop := x.n < 256 ∧ x.e < 4294967296 ∧ x.l < 4294967296 ∧ x.s < 4294967296 ∧ x.a < 4294967296
def P.ns (x : P) : List Nat := [x.n, x.e, x.l, x.s, x.a, if x.p then 1 else 0]
def P.ks : List K := [.up M8, .up M32, .up M32, .up M32, .up M32, .bool]
def P.right (x : P) : Bool := decide (x.n < 16) && decide (x.b.length ≤ 1984) && !(x.p && decide (x.s ≠ 0))
def P.enc (x : P) : List UInt8 := Note.enc 4 x.ns (some x.b)

theorem Q.right_of (x : Q) (h : x.right = true) : x.cl < 8 ∧ (0 ≤ x.kk ∧ x.kk ≤ 2147483647) ∧ (0 ≤ x.w ∧ x.w ≤ 2147483647) ∧ 1 ≤ x.k ∧ x.k ≤ 3 := by
  unfold Q.right at h
  simp only [Bool.and_eq_true, decide_eq_true_eq] at h
  obtain ⟨⟨⟨h1, h2⟩, h3⟩, h4⟩ := h
  refine ⟨h1, h2, h3, ?_⟩
  split at h4
  · omega
  · split at h4
    · omega
    · cases h4

theorem R.right_of (x : R) (h : x.right = true) : x.cl < 8 ∧ (0 ≤ x.e ∧ x.e ≤ 16) ∧ x.st ≤ 5 ∧ (0 ≤ x.c ∧ x.c ≤ 10000) := by
  unfold R.right at h
  simp only [Bool.and_eq_true, decide_eq_true_eq] at h
  obtain ⟨⟨⟨h1, h2⟩, h3⟩, h4⟩ := h
  exact ⟨h1, h2, h3, h4⟩

theorem P.right_of (x : P) (h : x.right = true) : x.n < 16 ∧ x.b.length ≤ 1984 := by
  unfold P.right at h
  simp only [Bool.and_eq_true, decide_eq_true_eq] at h
  exact ⟨h.1.1, h.1.2⟩

theorem N.fit (x : N) (h : x.wf) (hr : x.right = true) : Fit N.ks x.ns := by
  obtain ⟨h1, h2, h3, h4, h5, h6, h7, h8, h9, h10, h11, h12, h13⟩ := h
  obtain ⟨_, _, _, _, hc, _⟩ := N.right_of x hr
  have hu := u64_small x.c hc.1 h11
  simp only [N.ks, N.ns, Fit, fits, M8, M32, and_true]
  omega

theorem Q.fit (x : Q) (h : x.wf) (hr : x.right = true) : Fit Q.ks x.ns := by
  obtain ⟨h1, h2, h3, h4, h5, h6, h7, h8, h9⟩ := h
  obtain ⟨_, hc, hd, _⟩ := Q.right_of x hr
  have hu := u64_small x.kk hc.1 h6
  have hv := u64_small x.w hd.1 h8
  simp only [Q.ks, Q.ns, Fit, fits, M8, M32, and_true]
  omega

theorem R.fit (x : R) (h : x.wf) (hr : x.right = true) : Fit R.ks x.ns := by
  obtain ⟨h1, h2, h3, h4, h5, h6, h7, h8⟩ := h
  obtain ⟨_, hc, _, hd⟩ := R.right_of x hr
  have hu := u64_small x.e hc.1 h4
  have hv := u64_small x.c hd.1 h8
  simp only [R.ks, R.ns, Fit, fits, M8, M32, and_true]
  omega

theorem P.fit (x : P) (h : x.wf) : Fit P.ks x.ns := by
  obtain ⟨h1, h2, h3, h4, h5⟩ := h
  have : (if x.p then 1 else 0) < 2 := by split <;> omega
  simp only [P.ks, P.ns, Fit, fits, M8, M32, and_true]
  omega

/-- WHAT A READER ANSWERS of the bytes p: the thing of which they are made, or the error. -/
def Ans {X : Type} (ok : X → Prop) (enc : X → List UInt8) (zero : X) (p : List UInt8) (x : X) (e : Int) : Prop :=
  (Knot.uerr p ≠ 0 ∧ x = zero ∧ e = Knot.uerr p) ∨
  (Knot.uerr p = 0 ∧ ok x ∧ Knot.utext p = enc x ∧ e = 0) ∨
  (Knot.uerr p = 0 ∧ (∀ y, ok y → Knot.utext p ≠ enc y) ∧ x = zero ∧ e = 4)

theorem Ans.unique {X : Type} {ok : X → Prop} {enc : X → List UInt8} {zero : X} {p : List UInt8} {x x' : X} {e e' : Int} (hi : ∀ a b, ok a → ok b → enc a = enc b → a = b)
    (h : Ans ok enc zero p x e) (h' : Ans ok enc zero p x' e') : x = x' ∧ e = e' := by
  rcases h with ⟨a1, a2, a3⟩ | ⟨a1, a2, a3, a4⟩ | ⟨a1, a2, a3, a4⟩
  · rcases h' with ⟨b1, b2, b3⟩ | ⟨b1, b2, b3, b4⟩ | ⟨b1, b2, b3, b4⟩
    · exact ⟨a2.trans b2.symm, a3.trans b3.symm⟩
    · exact absurd b1 a1
    · exact absurd b1 a1
  · rcases h' with ⟨b1, b2, b3⟩ | ⟨b1, b2, b3, b4⟩ | ⟨b1, b2, b3, b4⟩
    · exact absurd a1 b1
    · exact ⟨hi _ _ a2 b2 (a3.symm.trans b3), a4.trans b4.symm⟩
    · exact absurd a3 (b2 _ a2)
  · rcases h' with ⟨b1, b2, b3⟩ | ⟨b1, b2, b3, b4⟩ | ⟨b1, b2, b3, b4⟩
    · exact absurd a1 b1
    · exact absurd b3 (a2 _ b2)
    · exact ⟨a3.trans b3.symm, a4.trans b4.symm⟩

def N.ok (x : N) : Prop := x.wf ∧ x.right = true
def Q.ok (x : Q) : Prop := x.wf ∧ x.right = true
def R.ok (x : R) : Prop := x.wf ∧ x.right = true
def P.ok (x : P) : Prop := x.wf ∧ x.right = true

theorem u64_inj (a b : Int) (ha : 0 ≤ a) (ha2 : a < 9223372036854775808) (hb : 0 ≤ b) (hb2 : b < 9223372036854775808) (h : u64 a = u64 b) : a = b := by
  have h1 := u64_small a ha ha2
  have h2 := u64_small b hb hb2
  omega

theorem some_len {b x : List UInt8} (hb : b.length ≤ 100000) (h : some b = some x) : x.length < 18446744073709551616 := by cases h; omega

theorem N.inj (x y : N) (hx : x.ok) (hy : y.ok) (h : x.enc = y.enc) : x = y := by
  obtain ⟨_, _, _, _, cx, bx⟩ := N.right_of x hx.2
  obtain ⟨_, _, _, _, cy, by'⟩ := N.right_of y hy.2
  obtain ⟨_, h1, h2⟩ := enc_inj (tag := 1) (tag' := 1) (b := (some x.b)) (b' := (some y.b)) (by omega) (by omega) (N.fit x hx.1 hx.2) (N.fit y hy.1 hy.2) (fun z hz => some_len (by omega) hz) (fun z hz => some_len (by omega) hz) rfl h
  simp only [N.ns, List.cons.injEq, and_true] at h1
  obtain ⟨e1, e2, e3, e4, e5, e6, e7, e8, e9, e10, e11, e12⟩ := h1
  have e10' := u64_inj _ _ cx.1 (by omega) cy.1 (by omega) e10
  cases x; cases y
  simp only at *
  subst e1 e2 e3 e4 e5 e6 e7 e8 e9 e10' e11 e12
  cases h2
  rfl

theorem Q.inj (x y : Q) (hx : x.ok) (hy : y.ok) (h : x.enc = y.enc) : x = y := by
  obtain ⟨_, cx, dx, _⟩ := Q.right_of x hx.2
  obtain ⟨_, cy, dy, _⟩ := Q.right_of y hy.2
  obtain ⟨_, h1, _⟩ := enc_inj (tag := 2) (tag' := 2) (b := none) (b' := none) (by omega) (by omega) (Q.fit x hx.1 hx.2) (Q.fit y hy.1 hy.2) (fun z hz => by cases hz) (fun z hz => by cases hz) rfl h
  simp only [Q.ns, List.cons.injEq, and_true] at h1
  obtain ⟨e1, e2, e3, e4, e5, e6, e7⟩ := h1
  have e5' := u64_inj _ _ cx.1 (by omega) cy.1 (by omega) e5
  have e6' := u64_inj _ _ dx.1 (by omega) dy.1 (by omega) e6
  cases x; cases y
  simp only at *
  subst e1 e2 e3 e4 e5' e6' e7
  rfl

theorem R.inj (x y : R) (hx : x.ok) (hy : y.ok) (h : x.enc = y.enc) : x = y := by
  obtain ⟨_, cx, _, dx⟩ := R.right_of x hx.2
  obtain ⟨_, cy, _, dy⟩ := R.right_of y hy.2
  obtain ⟨_, h1, _⟩ := enc_inj (tag := 3) (tag' := 3) (b := none) (b' := none) (by omega) (by omega) (R.fit x hx.1 hx.2) (R.fit y hy.1 hy.2) (fun z hz => by cases hz) (fun z hz => by cases hz) rfl h
  simp only [R.ns, List.cons.injEq, and_true] at h1
  obtain ⟨e1, e2, e3, e4, e5, e6⟩ := h1
  have e3' := u64_inj _ _ cx.1 (by omega) cy.1 (by omega) e3
  have e6' := u64_inj _ _ dx.1 (by omega) dy.1 (by omega) e6
  cases x; cases y
  simp only at *
  subst e1 e2 e3' e4 e5 e6'
  rfl

theorem P.inj (x y : P) (hx : x.ok) (hy : y.ok) (h : x.enc = y.enc) : x = y := by
  obtain ⟨_, bx⟩ := P.right_of x hx.2
  obtain ⟨_, by'⟩ := P.right_of y hy.2
  obtain ⟨_, h1, h2⟩ := enc_inj (tag := 4) (tag' := 4) (b := (some x.b)) (b' := (some y.b)) (by omega) (by omega) (P.fit x hx.1) (P.fit y hy.1) (fun z hz => some_len (by omega) hz) (fun z hz => some_len (by omega) hz) rfl h
  simp only [P.ns, List.cons.injEq, and_true] at h1
  obtain ⟨e1, e2, e3, e4, e5, e6⟩ := h1
  have e6' : x.p = y.p := by
    revert e6
    cases x.p <;> cases y.p <;> simp
  cases x; cases y
  simp only at *
  subst e1 e2 e3 e4 e5 e6'
  cases h2
  rfl

/-- Bytes are one of the four at most. -/
theorem tag_apart {tag tag' : Nat} {ns ns' : List Nat} {b b' : Option (List UInt8)} (ht : tag < 18446744073709551616) (ht' : tag' < 18446744073709551616) (h : enc tag ns b = enc tag' ns' b') : tag = tag' := by
  unfold enc at h
  rw [nums_cons, nums_cons, List.append_assoc, List.append_assoc] at h
  have h1 := Ink.stNum_back tag (nums ns ++ tail b) ht
  have h2 := Ink.stNum_back tag' (nums ns' ++ tail b') ht'
  rw [h, h2] at h1
  simp only [Prod.mk.injEq] at h1
  exact h1.1.symm

end Go.Proofs.Ytahiaifdfgkemaa.Note
