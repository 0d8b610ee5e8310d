/-
  Plain words of layer 4: numbers one behind the other, read again; what a reader answers.
-/
import Derived.Test.YtahiaifdfgkemaaInkS
import Derived.Test.YtahiaifdfgkemaaBurst
import Derived.Test.YtahiaifdfgkemaaKnotR
namespace Go.Proofs.Ytahiaifdfgkemaa.Ink

theorem pow9 (i : Nat) (h : i < 9) : 2 * 128 ^ (9 - i) = 128 * (2 * 128 ^ (9 - (i + 1))) := by
  rw [show 9 - i = (9 - (i + 1)) + 1 by omega, Nat.pow_succ]
  omega

theorem scan_back (l : List UInt8) : ∀ r i acc n s, scan l r i acc = (n, s) → s ≠ 0 → i + r ≤ l.length → i + r ≤ 10 →
    ∃ m, n = acc + m * 128 ^ i ∧ numF (9 - i) m = (l.drop i).take (s - i) ∧ i < s ∧ s ≤ l.length ∧ (0 < i → 0 < m) ∧ m < 2 * 128 ^ (9 - i) := by
  intro r
  induction r with
  | zero => intro i acc n s h hs _ _; rw [scan] at h; cases h; exact absurd rfl hs
  | succ r ih =>
    intro i acc n s h hs hl h10
    have hd : l.drop i = l.getD i 0 :: l.drop (i + 1) := by
      rw [List.drop_eq_getElem_cons (show i < l.length by omega)]
      congr 1
      simp [List.getElem?_eq_getElem (show i < l.length by omega)]
    rw [scan] at h
    obtain ⟨x, hx⟩ : ∃ x, x = l.getD i 0 := ⟨_, rfl⟩
    rw [← hx] at h hd
    have hxl := x.toNat_lt
    have hxo : UInt8.ofNat x.toNat = x := by simp
    split at h
    · cases h; exact absurd rfl hs
    · rename_i c1
      split at h
      · rename_i c2
        have hi9 : i < 9 := by omega
        obtain ⟨m, h1, h2, h3, h4, h5, h6⟩ := ih (i + 1) _ n s h hs (by omega) (by omega)
        have hm := h5 (by omega)
        refine ⟨x.toNat % 128 + 128 * m, ?_, ?_, by omega, h4, fun _ => by omega, ?_⟩
        · rw [h1, Nat.add_mul, Nat.pow_succ, Nat.add_assoc]
          congr 2
          rw [Nat.mul_comm 128 m, Nat.mul_comm (128 ^ i) 128, Nat.mul_assoc]
        · rw [show 9 - i = (9 - (i + 1)) + 1 by omega, numF, if_neg (by omega), show (x.toNat % 128 + 128 * m) / 128 = m by omega, show (x.toNat % 128 + 128 * m) % 128 + 128 = x.toNat by omega, h2, hd, show s - i = (s - (i + 1)) + 1 by omega, List.take_succ_cons, hxo]
        · rw [pow9 i hi9]
          omega
      · rename_i c2
        split at h
        · cases h; exact absurd rfl hs
        · rename_i c3
          simp only [Prod.mk.injEq] at h
          obtain ⟨h1, h2⟩ := h
          subst h2
          have hm : x.toNat % 128 = x.toNat := by omega
          refine ⟨x.toNat, by rw [← h1, hm], ?_, by omega, by omega, fun hi => by omega, ?_⟩
          · rw [hd, show i + 1 - i = 0 + 1 by omega, List.take_succ_cons, List.take_zero]
            by_cases c : i = 9
            · subst c
              show [UInt8.ofNat x.toNat] = _
              rw [hxo]
            · rw [show 9 - i = (9 - (i + 1)) + 1 by omega, numF, if_pos (by omega), hxo]
          · by_cases c : i = 9
            · subst c
              simp
              omega
            · rw [pow9 i (by omega)]
              have : 0 < 128 ^ (9 - (i + 1)) := Nat.pow_pos (by omega)
              omega

/-- What is read as a number is what that number is written as. -/
theorem front_back (l : List UInt8) (n s : Nat) (h : front l = (n, s)) (hs : s ≠ 0) : l = num n ++ l.drop s ∧ n < 18446744073709551616 := by
  obtain ⟨m, h1, h2, h3, h4, _, h6⟩ := scan_back l _ 0 0 n s h hs (by omega) (by omega)
  simp only [Nat.pow_zero, Nat.mul_one, Nat.zero_add, Nat.sub_zero, List.drop_zero] at h1 h2 h6
  subst h1
  refine ⟨?_, by
    have : (128 : Nat) ^ 9 = 9223372036854775808 := by decide
    omega⟩
  unfold num
  rw [h2, List.take_append_drop]

theorem stNum_good (s : Option (List UInt8)) (n : Nat) (r' : List UInt8) (h : stNum s = (n, some r')) : ∃ r, s = some r ∧ r = num n ++ r' ∧ n < 18446744073709551616 := by
  cases s with
  | none => simp [stNum] at h
  | some r =>
    simp only [stNum] at h
    split at h
    · simp at h
    · rename_i c
      simp only [Prod.mk.injEq, Option.some.injEq] at h
      obtain ⟨h1, h2⟩ := h
      have := front_back r _ _ (show front r = ((front r).1, (front r).2) from rfl) c
      rw [h1, h2] at this
      exact ⟨r, rfl, this⟩

theorem stNum_back (n : Nat) (r : List UInt8) (h : n < 18446744073709551616) : stNum (some (num n ++ r)) = (n, some r) := by
  have hf := front_num n r h
  have := (num_length n).2
  simp only [stNum, hf]
  rw [if_neg (by omega)]
  simp

theorem stNum_none (n : Nat) (s' : Option (List UInt8)) (h : stNum none = (n, s')) : s' = none := by simp [stNum] at h; exact h.2.symm

theorem stText_good (s : Option (List UInt8)) (b r' : List UInt8) (h : stText s = (b, some r')) : ∃ r, s = some r ∧ r = text b ++ r' ∧ b.length < 18446744073709551616 := by
  unfold stText at h
  split at h
  · simp at h
  · rename_i n r e
    split at h
    · simp at h
    · rename_i c
      simp only [Prod.mk.injEq, Option.some.injEq] at h
      obtain ⟨h1, h2⟩ := h
      obtain ⟨q, hq, hr, hn⟩ := stNum_good s n r e
      have hl : b.length = n := by rw [← h1, List.length_take]; omega
      refine ⟨q, hq, ?_, by omega⟩
      unfold text
      rw [hl, hr, ← h1, ← h2, List.append_assoc, List.take_append_drop]

theorem stText_back (b r : List UInt8) (h : b.length < 18446744073709551616) : stText (some (text b ++ r)) = (b, some r) := by
  unfold stText text
  rw [List.append_assoc, stNum_back _ _ h]
  simp

end Go.Proofs.Ytahiaifdfgkemaa.Ink
namespace Go.Proofs.Ytahiaifdfgkemaa.Note
open Ink (num stNum stBelow stText)

/-- Numbers one behind the other. -/
def nums (l : List Nat) : List UInt8 := l.flatMap num

theorem nums_cons (n : Nat) (l : List Nat) : nums (n :: l) = num n ++ nums l := rfl
theorem nums_append (l m : List Nat) : nums (l ++ m) = nums l ++ nums m := by unfold nums; rw [List.flatMap_append]
theorem nums_length (l : List Nat) : (nums l).length ≤ 10 * l.length := by
  induction l with
  | nil => simp [nums]
  | cons n r ih =>
    have := (Ink.num_length n).1
    rw [nums_cons, List.length_append, List.length_cons]
    omega

/-- How a field's number is read: up to M (a greater one is remembered), below 2^31, below 2. -/
inductive K where
  | up (M : Nat)
  | int
  | bool

abbrev St := Option (List UInt8) × Bool

def stepK : K → St → Nat × St
  | .up M, (s, o) => if M < (stNum s).1 then (0, ((stNum s).2, true)) else ((stNum s).1, ((stNum s).2, o))
  | .int, (s, o) => ((stBelow 2147483648 s).1, ((stBelow 2147483648 s).2, o))
  | .bool, (s, o) => ((stBelow 2 s).1, ((stBelow 2 s).2, o))

def fits : K → Nat → Prop
  | .up M, n => n ≤ M ∧ n < 18446744073709551616
  | .int, n => n < 2147483648
  | .bool, n => n < 2

theorem below_good (L : Nat) (s : Option (List UInt8)) (n : Nat) (r' : List UInt8) (h : stBelow L s = (n, some r')) : n < L ∧ ∃ r, s = some r ∧ r = num n ++ r' := by
  unfold stBelow at h
  split at h
  · simp at h
  · rename_i c
    obtain ⟨r, h1, h2, _⟩ := Ink.stNum_good s n r' h
    rw [h] at c
    exact ⟨by simpa using c, r, h1, h2⟩

theorem below_back (L n : Nat) (r : List UInt8) (h : n < L) (h2 : n < 18446744073709551616) : stBelow L (some (num n ++ r)) = (n, some r) := by
  unfold stBelow
  rw [Ink.stNum_back n r h2, if_neg (by simp only; omega)]

theorem stepK_good (k : K) (st : St) (n : Nat) (r' : List UInt8) (h : stepK k st = (n, (some r', false))) : ∃ r, st = (some r, false) ∧ r = num n ++ r' ∧ fits k n := by
  obtain ⟨s, o⟩ := st
  cases k with
  | up M =>
    simp only [stepK] at h
    split at h
    · simp at h
    · rename_i c
      simp only [Prod.mk.injEq] at h
      obtain ⟨h1, h2, h3⟩ := h
      obtain ⟨r, e1, e2, e3⟩ := Ink.stNum_good s n r' (by rw [← h1, ← h2])
      rw [e1, h3]
      exact ⟨r, rfl, e2, by omega, e3⟩
  | int =>
    simp only [stepK, Prod.mk.injEq] at h
    obtain ⟨h1, h2, h3⟩ := h
    obtain ⟨e0, r, e1, e2⟩ := below_good _ s n r' (by rw [← h1, ← h2])
    rw [e1, h3]
    exact ⟨r, rfl, e2, e0⟩
  | bool =>
    simp only [stepK, Prod.mk.injEq] at h
    obtain ⟨h1, h2, h3⟩ := h
    obtain ⟨e0, r, e1, e2⟩ := below_good _ s n r' (by rw [← h1, ← h2])
    rw [e1, h3]
    exact ⟨r, rfl, e2, e0⟩

theorem fits_lt (k : K) (n : Nat) (h : fits k n) : n < 18446744073709551616 := by
  cases k with
  | up M => exact h.2
  | int => simp only [fits] at h; omega
  | bool => simp only [fits] at h; omega

theorem stepK_back (k : K) (n : Nat) (r : List UInt8) (o : Bool) (h : fits k n) : stepK k (some (num n ++ r), o) = (n, (some r, o)) := by
  have h2 := fits_lt k n h
  cases k with
  | up M =>
    simp only [stepK, Ink.stNum_back n r h2]
    rw [if_neg (by have := h.1; omega)]
  | int => simp only [stepK, below_back _ n r h h2]
  | bool => simp only [stepK, below_back _ n r h h2]

/-- Field by field. -/
def run : List K → St → List Nat × St
  | [], st => ([], st)
  | k :: ks, st => ((stepK k st).1 :: (run ks (stepK k st).2).1, (run ks (stepK k st).2).2)

theorem run_snoc (ks : List K) (k : K) : ∀ st, run (ks ++ [k]) st = ((run ks st).1 ++ [(stepK k (run ks st).2).1], (stepK k (run ks st).2).2) := by
  induction ks with
  | nil => intro st; rfl
  | cons a r ih => intro st; simp only [List.cons_append, run, ih]

theorem run_step {ks : List K} {st st1 st2 : St} {ns : List Nat} {k : K} {n : Nat} (h : run ks st = (ns, st1)) (h2 : stepK k st1 = (n, st2)) : run (ks ++ [k]) st = (ns ++ [n], st2) := by
  rw [run_snoc, h]
  simp only
  rw [h2]

/-- All fit. -/
def Fit : List K → List Nat → Prop
  | [], [] => True
  | k :: ks, n :: ns => fits k n ∧ Fit ks ns
  | _, _ => False

theorem run_good (ks : List K) : ∀ (st : St) (ns : List Nat) (r' : List UInt8), run ks st = (ns, (some r', false)) → ∃ r, st = (some r, false) ∧ r = nums ns ++ r' ∧ Fit ks ns := by
  induction ks with
  | nil =>
    intro st ns r' h
    simp only [run, Prod.mk.injEq] at h
    obtain ⟨h1, h2⟩ := h
    subst h1
    exact ⟨r', h2, rfl, trivial⟩
  | cons k ks ih =>
    intro st ns r' h
    simp only [run, Prod.mk.injEq] at h
    obtain ⟨h1, h2⟩ := h
    obtain ⟨r1, e1, e2, e3⟩ := ih (stepK k st).2 (run ks (stepK k st).2).1 r' (by rw [← h2])
    obtain ⟨r0, f1, f2, f3⟩ := stepK_good k st (stepK k st).1 r1 (by rw [← e1])
    subst h1
    refine ⟨r0, f1, ?_, f3, e3⟩
    rw [nums_cons, f2, e2, List.append_assoc]

theorem run_back (ks : List K) : ∀ (ns : List Nat) (r : List UInt8) (o : Bool), Fit ks ns → run ks (some (nums ns ++ r), o) = (ns, (some r, o)) := by
  induction ks with
  | nil =>
    intro ns r o h
    cases ns with
    | nil => rfl
    | cons n ns => exact h.elim
  | cons k ks ih =>
    intro ns r o h
    cases ns with
    | nil => exact h.elim
    | cons n ns =>
      simp only [run, nums_cons, List.append_assoc, stepK_back k n _ o h.1, ih ns r o h.2]

/-- What stands behind the numbers: a text, or nothing. -/
def tail : Option (List UInt8) → List UInt8
  | none => []
  | some b => Ink.text b

/-- The text at the end, if there is to be one. -/
def last (ht : Bool) (st : St) : Option (List UInt8) × St := if ht then (some (stText st.1).1, ((stText st.1).2, st.2)) else (none, st)

/-- What is written of a thing: its tag, its numbers, its text. -/
def enc (tag : Nat) (ns : List Nat) (b : Option (List UInt8)) : List UInt8 := nums (tag :: ns) ++ tail b

theorem read_good {t : List UInt8} {tag : Nat} {s0 : Option (List UInt8)} {ks : List K} {ns : List Nat} {st1 : St} {ht : Bool} {b : Option (List UInt8)}
    (h0 : stNum (some t) = (tag, s0)) (h1 : run ks (s0, false) = (ns, st1)) (h2 : last ht st1 = (b, (some [], false))) : t = enc tag ns b ∧ Fit ks ns ∧ tag < 18446744073709551616 := by
  have h3 : ∃ r, st1 = (some r, false) ∧ r = tail b := by
    unfold last at h2
    split at h2
    · simp only [Prod.mk.injEq] at h2
      obtain ⟨e1, e2, e3⟩ := h2
      obtain ⟨r, f1, f2, _⟩ := Ink.stText_good st1.1 (stText st1.1).1 [] (by rw [← e2])
      refine ⟨r, Prod.ext f1 e3, ?_⟩
      rw [f2, ← e1, List.append_nil]; rfl
    · simp only [Prod.mk.injEq] at h2
      exact ⟨[], h2.2, by rw [← h2.1]; rfl⟩
  obtain ⟨r, rfl, hr⟩ := h3
  obtain ⟨r0, e1, e2, e3⟩ := run_good ks _ ns r h1
  simp only [Prod.mk.injEq, and_true] at e1
  subst e1
  obtain ⟨q, f1, f2, f3⟩ := Ink.stNum_good _ _ _ h0
  simp only [Option.some.injEq] at f1
  subst f1
  refine ⟨?_, e3, f3⟩
  unfold enc
  rw [f2, e2, hr, nums_cons, List.append_assoc]

theorem read_back {tag : Nat} {ks : List K} {ns : List Nat} {b : Option (List UInt8)} (ht : tag < 18446744073709551616) (hf : Fit ks ns) (hb : ∀ x, b = some x → x.length < 18446744073709551616) :
    stNum (some (enc tag ns b)) = (tag, some (nums ns ++ tail b)) ∧ run ks (some (nums ns ++ tail b), false) = (ns, (some (tail b), false)) ∧ last b.isSome (some (tail b), false) = (b, (some [], false)) := by
  refine ⟨?_, run_back ks ns _ _ hf, ?_⟩
  · unfold enc
    rw [nums_cons, List.append_assoc]
    exact Ink.stNum_back tag _ ht
  · cases b with
    | none => rfl
    | some x =>
      unfold last
      have := Ink.stText_back x [] (hb x rfl)
      rw [List.append_nil] at this
      simp only [tail, Option.isSome_some, if_true, this]

theorem enc_inj {tag tag' : Nat} {ks : List K} {ns ns' : List Nat} {b b' : Option (List UInt8)} (ht : tag < 18446744073709551616) (ht' : tag' < 18446744073709551616) (hf : Fit ks ns) (hf' : Fit ks ns')
    (hb : ∀ x, b = some x → x.length < 18446744073709551616) (hb' : ∀ x, b' = some x → x.length < 18446744073709551616) (hs : b.isSome = b'.isSome) (h : enc tag ns b = enc tag' ns' b') : tag = tag' ∧ ns = ns' ∧ b = b' := by
  obtain ⟨a1, a2, a3⟩ := read_back ht hf hb
  obtain ⟨c1, c2, c3⟩ := read_back ht' hf' hb'
  rw [h, c1] at a1
  simp only [Prod.mk.injEq, Option.some.injEq] at a1
  rw [← a1.2, c2] at a2
  simp only [Prod.mk.injEq, Option.some.injEq, and_true] at a2
  rw [← a2.2, hs, c3] at a3
  simp only [Prod.mk.injEq, and_true] at a3
  exact ⟨a1.1.symm, a2.1.symm, a3.symm⟩

end Go.Proofs.Ytahiaifdfgkemaa.Note
namespace Go.Proofs.Ytahiaifdfgkemaa.Knot

/-- What is a knot is the knot of its text. -/
theorem knot_of_uerr (p : List UInt8) (h : uerr p = 0) : p = knot (utext p) ∧ (utext p).length ≤ 2048 := by
  have he : err p = 0 := by
    unfold uerr at h
    split at h
    · exact absurd h ‹_›
    · rename_i c; simpa using c
  have hr : rest p = [] := by
    unfold uerr at h
    rw [if_neg (by rw [he]; simp)] at h
    split at h
    · assumption
    · cases h
  have ht : utext p = (p.drop 2).take (size p) := by unfold utext text; rw [if_pos h, if_pos he]
  have hrr : p.drop (size p + 6) = [] := by unfold rest at hr; rwa [if_pos he] at hr
  have h2 := he
  unfold err at h2
  split at h2
  · cases h2
  · split at h2
    · cases h2
    · split at h2
      · cases h2
      · split at h2
        · cases h2
        · rename_i c1 c2 c3 c4
          have hsum : Crc.sum (p.take (size p + 2)) = num (p.drop (size p + 2)) 4 := Classical.not_not.1 c4
          have hk := knot_front p (by omega)
          rw [decide_eq_true hsum, beq_iff_eq] at hk
          have hlen : p.length ≤ size p + 6 := by
            have := congrArg List.length hrr
            simp at this
            omega
          refine ⟨?_, by rw [ht]; simp; omega⟩
          rw [ht, hk]
          exact (List.take_of_length_le hlen).symm

end Go.Proofs.Ytahiaifdfgkemaa.Knot
