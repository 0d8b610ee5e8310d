/-
  Plain words: what Ops write, and that it is read again.
-/
import Derived.Test.YtoglhleljknhcaaOps
import Derived.Test.YtoglhleljknhcaaInkS
import Derived.Test.YtoglhleljknhcaaPen2
import Derived.Test.YtoglhleljknhcaaEyeS
import Derived.Deep.RegionHeld3
namespace Go.Proofs.Ytoglhleljknhcaa
open Go.RowKit

/-- An int as its 64 bits. -/
def u64 (n : Int) : Nat := (n % 18446744073709551616).toNat
/-- Its low 32 bits, halved. -/
def half (n : Int) : Nat := (n % 4294967296).toNat / 2

theorem u64_lt (n : Int) : u64 n < 18446744073709551616 := by unfold u64; omega
theorem half_lt (n : Int) : half n < 2147483648 := by unfold half; omega

/-- What an Op writes. -/
def wrote (o : OpW) : List UInt8 :=
  if o.d % 4 = 0 then Ink.num (u64 o.n) else if o.d % 4 = 1 then Ink.num (half o.n) else if o.d % 4 = 2 then Ink.num (if 0 < o.n then 1 else 0) else Ink.text o.t

def wroteAll (os : List OpW) : List UInt8 := os.flatMap wrote

theorem wroteAll_take (os : List OpW) (r : Nat) (o : OpW) (h : os[r]? = some o) : wroteAll (os.take (r + 1)) = wroteAll (os.take r) ++ wrote o := by
  unfold wroteAll
  have hr : r < os.length := (List.getElem?_eq_some_iff.1 h).1
  have ho : os[r] = o := (List.getElem?_eq_some_iff.1 h).2
  rw [List.take_succ_eq_append_getElem hr, List.flatMap_append, ho]
  simp

theorem wroteAll_drop (os : List OpW) (r : Nat) (o : OpW) (h : os[r]? = some o) : wroteAll (os.drop r) = wrote o ++ wroteAll (os.drop (r + 1)) := by
  unfold wroteAll
  have hr : r < os.length := (List.getElem?_eq_some_iff.1 h).1
  have ho : os[r] = o := (List.getElem?_eq_some_iff.1 h).2
  rw [List.drop_eq_getElem_cons hr, List.flatMap_cons, ho]

theorem wrote_length (o : OpW) (h : o.t.length ≤ 100) : (wrote o).length ≤ 110 := by
  have h1 := fun n => (Ink.num_length n).1
  unfold wrote
  split
  · have := h1 (u64 o.n); omega
  · split
    · have := h1 (half o.n); omega
    · split
      · have := h1 (if 0 < o.n then 1 else 0); omega
      · unfold Ink.text
        rw [List.length_append]
        have := h1 o.t.length
        omega

theorem wroteAll_length (os : List OpW) (h : ∀ (r : Nat) (o : OpW), os[r]? = some o → o.t.length ≤ 100) : ∀ k, k ≤ os.length → (wroteAll (os.take k)).length ≤ 110 * k := by
  intro k
  induction k with
  | zero => intro _; simp [wroteAll]
  | succ k ih =>
    intro hk
    have ho : os[k]? = some (os[k]'(by omega)) := List.getElem?_eq_getElem (by omega)
    rw [wroteAll_take os k _ ho, List.length_append]
    have := ih (by omega)
    have := wrote_length _ (h k _ ho)
    omega

theorem wroteAll_drop_le (os : List OpW) (k : Nat) : (wroteAll (os.drop k)).length ≤ (wroteAll os).length := by
  have : wroteAll os = wroteAll (os.take k) ++ wroteAll (os.drop k) := by
    unfold wroteAll
    rw [← List.flatMap_append, List.take_append_drop]
  rw [this, List.length_append]
  omega

theorem stNum_num (n : Nat) (r : List UInt8) (hn : n < 18446744073709551616) : Ink.stNum (some (Ink.num n ++ r)) = (n, some r) := by
  have h := Ink.front_num n r hn
  have hl := (Ink.num_length n).2
  unfold Ink.stNum
  simp only [h]
  rw [if_neg (by omega)]
  simp

theorem stBelow_num (L n : Nat) (r : List UInt8) (hn : n < L) (hL : L ≤ 18446744073709551616) : Ink.stBelow L (some (Ink.num n ++ r)) = (n, some r) := by
  unfold Ink.stBelow
  rw [stNum_num n r (by omega), if_neg (by simp only; omega)]

theorem stText_text (t r : List UInt8) (ht : t.length < 18446744073709551616) : Ink.stText (some (Ink.text t ++ r)) = (t, some r) := by
  unfold Ink.stText Ink.text
  rw [List.append_assoc, stNum_num _ _ ht]
  simp

theorem wrap_u64z (n : Int) : IntKind.u64.wrap n = (u64 n : Int) := by
  rw [IntKind.wrap_u64]; unfold u64; omega

theorem half_eq (n : Int) : n % 4294967296 / 2 = (half n : Int) := by unfold half; omega

theorem wrap_half2 (n : Int) : Go.RowKit.wrap64 (half n : Int) = (half n : Int) := by
  have := half_lt n
  unfold Go.RowKit.wrap64
  omega

theorem wrap_half (n : Int) : Go.RowKit.wrap64 (n % 4294967296 / 2) = (half n : Int) := by rw [half_eq]; exact wrap_half2 n

theorem half_wrap (n : Int) : IntKind.i64.wrap (IntKind.u32.wrap n / 2) = (half n : Int) := by
  have h : IntKind.u32.wrap n = n % 4294967296 := IntKind.wrap_u32 n
  rw [h, half_eq]
  exact IntWalk.i64_in _ (by have := half_lt n; omega)

theorem wrote0 (o : OpW) (h : o.d % 4 = 0) : wrote o = Ink.num (u64 o.n) := by unfold wrote; rw [if_pos h]
theorem wrote1 (o : OpW) (h : o.d % 4 = 1) : wrote o = Ink.num (half o.n) := by unfold wrote; rw [if_neg (by omega), if_pos h]
theorem wrote2 (o : OpW) (h : o.d % 4 = 2) : wrote o = Ink.num (if decide (0 < o.n) = true then 1 else 0) := by unfold wrote; rw [if_neg (by omega), if_neg (by omega), if_pos h]; simp
theorem wrote3 (o : OpW) (h : o.d % 4 = 3) : wrote o = Ink.text o.t := by unfold wrote; rw [if_neg (by omega), if_neg (by omega), if_neg (by omega)]

set_option maxRecDepth 100000 in
set_option maxHeartbeats 1000000 in
theorem pentext_at (b base : Nat) (v : Value) (l : List UInt8) (t : Value) (m : List UInt8) (w : World) (h : PenAt w base b v l false) (ht : Rd w t m) (hsep : m = [] ∨ ∀ k, t.ownBlock = some k → ¬ penS b v k) (hl : l.length ≤ 900000) (hm : m.length ≤ 1000) (hbase : base ≤ w.heap.size) :
    Calls Try.prog 26 #[.pointer (some ⟨b, 0, none⟩), t] w fun e w' => e = .returned (.tuple #[]) ∧ Wrote w base b v l (Ink.text m) w' := by
  have hc1 := h.cell1
  obtain ⟨n, hn⟩ : ∃ n, n = m.length := ⟨_, rfl⟩
  obtain ⟨ta, tc, rfl⟩ : ∃ ta tc, t = .slice ta n tc := by
    obtain ⟨ta, tc, e, _⟩ := ht
    exact ⟨ta, tc, by rw [hn, e]⟩
  rw [← hn] at hm
  have HN := hid hn
  clear hn
  go_enter Try.func26, Try.ntmps26
  go_wp2_with fail
  refine (pennum_at b base v l n _ (by first | rfl | omega) (by omega) w h (by omega) hbase).mono ?_
  rintro e w1 ⟨rfl, v1, hp, hk, hfr⟩
  have ht1 : Rd w1 (.slice ta n tc) m := by
    rcases hsep with h | h
    · subst h
      obtain ⟨a, cap, e, h1, h2, h3, _⟩ := ht
      exact ⟨a, cap, e, h1, h2, h3, fun _ _ j hj => by cases hj⟩
    · exact ht.keeps hk h
  obtain ⟨ad, cp, rfl⟩ : ∃ ad cp, v1 = .slice ad (l.length + (Ink.num n).length) cp := by
    obtain ⟨ad, cp, e, _⟩ := hp.2.1.rd
    rw [List.length_append] at e
    exact ⟨ad, cp, e⟩
  have hcell := hp.cell0
  have hbs : base ≤ w1.heap.size := Nat.le_trans hbase hk.size
  have hnl := (Ink.num_length n).1
  have HT := hid (show (l ++ Ink.num n) ++ m = l ++ Ink.text m by unfold Ink.text; rw [HN.out, List.append_assoc])
  clear hc1
  go_wp2_with (at_builtin; go_must (refine appf rfl (.tmp 21) (.tmp 22) rfl base (.slice ad (l.length + (Ink.num n).length) cp) _ (l ++ Ink.num n) m (l ++ Ink.text m) (l.length + (Ink.num n).length + n) rfl rfl hp.2.1 ht1 (by rw [List.length_append, HN.out]) HT.out (by rw [List.length_append, ← HN.out]; omega) hbs ?_); intro ad4 cp4 w4 hown4 hgrow4 hq4; obtain ⟨g1, g2, g3, g4, g5⟩ := hp.appended (Below.refl _ _) hgrow4 hown4 hq4; have G3 := hid g3; have G4 := hid g4; have G5 := hid g5; clear g3 g4 g5 hgrow4 hown4 hq4)
  go_end0
  refine ⟨rfl, _, G3.out, ?_, ?_⟩
  · exact hk.trans' G4.out (fun i hi hs => by
      rcases hs with rfl | hs
      · exact .inl rfl
      · rcases hfr i hs with h' | h'
        · exact .inr h'
        · omega)
  · intro k hk'
    rcases G5.out k hk' with h' | h'
    · exact hfr k h'
    · exact .inr (Nat.le_trans hk.size h')


theorem penint_at (b base : Nat) (v : Value) (l : List UInt8) (n : Nat) (z : Int) (hz : z = (n : Int)) (hn : n < 9223372036854775808) (w : World) (h : PenAt w base b v l false) (hl : l.length ≤ 1000000) (hbase : base ≤ w.heap.size) :
    Calls Try.prog 24 #[.pointer (some ⟨b, 0, none⟩), .int .i64 z] w fun e w' => e = .returned (.tuple #[]) ∧ Wrote w base b v l (Ink.num n) w' := by
  subst hz
  exact penint_good b base v l n hn w h hl hbase

/-- The cells of what reads as l. -/
theorem Rd.block {w : World} {a : Option Addr} {n c : Nat} {l : List UInt8} (h : Rd w (.slice a n c) l) (h0 : 0 < n) : ∃ b off, a = some ⟨b, off, none⟩ ∧ b < w.heap.size := by
  have hh := h
  obtain ⟨a', c', e, _⟩ := hh
  simp only [Value.slice.injEq] at e
  obtain ⟨b, off, cap, e', _, _, hb, hc⟩ := h.pos (by omega)
  simp only [Value.slice.injEq] at e'
  exact ⟨b, off, e'.1, hb⟩

theorem EyeSt.drew {w : World} {base b : Nat} {v : Value} {s : Option (List UInt8)} (h : EyeSt w base b v s) : EyeSt w.drew base b v s := ⟨h.1, h.2.1.drew, h.2.2.1, h.2.2.2⟩

end Go.Proofs.Ytoglhleljknhcaa
