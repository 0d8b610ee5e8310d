/-
  A pen's other calls: their contracts.
-/
import Derived.Test.YtafpgglebjllbaaPen
import Derived.Test.YtafpgglebjllbaaClone
namespace Go.Proofs.Ytafpgglebjllbaa
open Go.RowKit

/-- What a call may leave of a pen: it has written m more. -/
def Wrote (w : World) (base b : Nat) (v : Value) (l m : List UInt8) (w' : World) : Prop :=
  ∃ v', PenAt w' base b v' (l ++ m) false ∧ Keeps (penS b v) w w' ∧ (∀ k, v'.ownBlock = some k → v.ownBlock = some k ∨ w.heap.size ≤ k)

theorem Rd.keeps {S : Nat → Prop} {w w' : World} {v : Value} {l : List UInt8} (h : Rd w v l) (hk : Keeps S w w') (hn : ∀ k, v.ownBlock = some k → ¬ S k) : Rd w' v l := by
  obtain ⟨a, cap, rfl, h1, h2, h3, h4⟩ := h
  refine ⟨a, cap, rfl, h1, h2, h3, fun x hx j hj => ?_⟩
  have h := h4 x hx j hj
  have hb := World.block_lt_of_cell? _ _ h
  have hxb : (x.add j).block = x.block := by unfold Addr.add; split <;> rfl
  rw [hk.cell hb (by rw [hxb]; exact hn _ (by rw [hx]; rfl))]
  exact h

theorem pennum_at (b base : Nat) (v : Value) (l : List UInt8) (n : Nat) (z : Int) (hz : z = (n : Int)) (hn : n < 18446744073709551616) (w : World) (h : PenAt w base b v l false) (hl : l.length ≤ 1000000) (hbase : base ≤ w.heap.size) :
    Calls Try.prog 61 #[.pointer (some ⟨b, 0, none⟩), .int .u64 z] w fun e w' => e = .returned (.tuple #[]) ∧ Wrote w base b v l (Ink.num n) w' := by
  subst hz
  exact pennum_good b base v l n hn w h hl hbase

set_option maxHeartbeats 400000 in
theorem pennum_bad (b base : Nat) (v : Value) (l : List UInt8) (n : Int) (w : World) (h : PenAt w base b v l true) :
    Calls Try.prog 61 #[.pointer (some ⟨b, 0, none⟩), .int .u64 n] w fun e w' => e = .returned (.tuple #[]) ∧ w = w' := by
  have hc1 := h.cell1
  go_enter Try.func61, Try.ntmps61
  go_wp2
  refine bodyPost_ret (results_none rfl _ _ _) rfl ?_
  exact ⟨rfl, rfl⟩

set_option maxHeartbeats 400000 in
theorem pennum_nil (n : Int) (w : World) :
    Calls Try.prog 61 #[.pointer none, .int .u64 n] w fun e w' => e = .returned (.tuple #[]) ∧ w = w' := by
  go_enter Try.func61, Try.ntmps61
  go_wp2
  refine bodyPost_ret (results_none rfl _ _ _) rfl ?_
  exact ⟨rfl, rfl⟩

set_option maxHeartbeats 400000 in
theorem penbool_good (b base : Nat) (v : Value) (l : List UInt8) (x : Bool) (w : World) (h : PenAt w base b v l false) (hl : l.length ≤ 1000000) (hbase : base ≤ w.heap.size) :
    Calls Try.prog 44 #[.pointer (some ⟨b, 0, none⟩), .bool x] w fun e w' => e = .returned (.tuple #[]) ∧ Wrote w base b v l (Ink.num (if x then 1 else 0)) w' := by
  cases x
  · go_enter Try.func44, Try.ntmps44
    go_wp2_with fail
    refine (pennum_at b base v l 0 _ rfl (by omega) w h hl hbase).mono ?_
    rintro e w' ⟨rfl, hw⟩
    go_wp2
    go_end0
    exact ⟨rfl, hw⟩
  · go_enter Try.func44, Try.ntmps44
    go_wp2_with fail
    refine (pennum_at b base v l 1 _ rfl (by omega) w h hl hbase).mono ?_
    rintro e w' ⟨rfl, hw⟩
    go_wp2
    go_end0
    exact ⟨rfl, hw⟩

set_option maxHeartbeats 400000 in
theorem penbool_bad (b base : Nat) (v : Value) (l : List UInt8) (x : Bool) (w : World) (h : PenAt w base b v l true) :
    Calls Try.prog 44 #[.pointer (some ⟨b, 0, none⟩), .bool x] w fun e w' => e = .returned (.tuple #[]) ∧ w = w' := by
  cases x
  all_goals
    go_enter Try.func44, Try.ntmps44
    go_wp2_with fail
    refine (pennum_bad b base v l _ w h).mono ?_
    rintro e w' ⟨rfl, rfl⟩
    go_wp2
    go_end0
    exact ⟨rfl, rfl⟩

set_option maxHeartbeats 400000 in
theorem penbool_nil (x : Bool) (w : World) :
    Calls Try.prog 44 #[.pointer none, .bool x] w fun e w' => e = .returned (.tuple #[]) ∧ w = w' := by
  cases x
  all_goals
    go_enter Try.func44, Try.ntmps44
    go_wp2_with fail
    refine (pennum_nil _ w).mono ?_
    rintro e w' ⟨rfl, rfl⟩
    go_wp2
    go_end0
    exact ⟨rfl, rfl⟩

set_option maxHeartbeats 400000 in
theorem pentext_nil (t : Value) (w : World) :
    Calls Try.prog 31 #[.pointer none, t] w fun e w' => e = .returned (.tuple #[]) ∧ w = w' := by
  go_enter Try.func31, Try.ntmps31
  go_wp2
  refine bodyPost_ret (results_none rfl _ _ _) rfl ?_
  exact ⟨rfl, rfl⟩

set_option maxHeartbeats 400000 in
theorem pentext_bad (b base : Nat) (v : Value) (l : List UInt8) (t : Value) (w : World) (h : PenAt w base b v l true) :
    Calls Try.prog 31 #[.pointer (some ⟨b, 0, none⟩), t] w fun e w' => e = .returned (.tuple #[]) ∧ w = w' := by
  have hc1 := h.cell1
  go_enter Try.func31, Try.ntmps31
  go_wp2
  refine bodyPost_ret (results_none rfl _ _ _) rfl ?_
  exact ⟨rfl, rfl⟩

set_option maxRecDepth 100000 in
set_option maxHeartbeats 1000000 in
theorem pentext_good (b base : Nat) (v : Value) (l : List UInt8) (t : Value) (m : List UInt8) (w : World) (h : PenAt w base b v l false) (ht : Rd w t m) (hsep : ∀ k, t.ownBlock = some k → ¬ penS b v k) (hl : l.length ≤ 900000) (hm : m.length ≤ 1000) (hbase : base ≤ w.heap.size) :
    Calls Try.prog 31 #[.pointer (some ⟨b, 0, none⟩), t] w fun e w' => e = .returned (.tuple #[]) ∧ Wrote w base b v l (Ink.text m) w' := by
  have hc1 := h.cell1
  obtain ⟨n, hn⟩ : ∃ n, n = m.length := ⟨_, rfl⟩
  obtain ⟨ta, tc, rfl⟩ : ∃ ta tc, t = .slice ta n tc := by
    obtain ⟨ta, tc, e, _⟩ := ht
    exact ⟨ta, tc, by rw [hn, e]⟩
  rw [← hn] at hm
  have HN := hid hn
  clear hn
  go_enter Try.func31, Try.ntmps31
  go_wp2_with fail
  refine (pennum_at b base v l n _ (by first | rfl | omega) (by omega) w h (by omega) hbase).mono ?_
  rintro e w1 ⟨rfl, v1, hp, hk, hfr⟩
  have ht1 := ht.keeps hk hsep
  obtain ⟨ad, cp, rfl⟩ : ∃ ad cp, v1 = .slice ad (l.length + (Ink.num n).length) cp := by
    obtain ⟨ad, cp, e, _⟩ := hp.2.1.rd
    rw [List.length_append] at e
    exact ⟨ad, cp, e⟩
  have hcell := hp.cell0
  have hbs : base ≤ w1.heap.size := Nat.le_trans hbase hk.size
  have hnl := (Ink.num_length n).1
  have HT := hid (show (l ++ Ink.num n) ++ m = l ++ Ink.text m by unfold Ink.text; rw [HN.out, List.append_assoc])
  clear hc1
  go_wp2_with (at_builtin; go_must (refine appf rfl (.tmp 21) (.tmp 22) rfl base (.slice ad (l.length + (Ink.num n).length) cp) _ (l ++ Ink.num n) m (l ++ Ink.text m) (l.length + (Ink.num n).length + n) rfl rfl hp.2.1 ht1 (by rw [List.length_append, HN.out]) HT.out (by rw [List.length_append, ← HN.out]; omega) hbs ?_); intro ad4 cp4 w4 hown4 hgrow4 hq4; obtain ⟨g1, g2, g3, g4, g5⟩ := hp.appended (Below.refl _ _) hgrow4 hown4 hq4; have G3 := hid g3; have G4 := hid g4; have G5 := hid g5; clear g3 g4 g5 hgrow4 hown4 hq4)
  go_end0
  refine ⟨rfl, _, G3.out, ?_, ?_⟩
  · exact hk.trans' G4.out (fun i hi hs => by
      rcases hs with rfl | hs
      · exact .inl rfl
      · rcases hfr i hs with h' | h'
        · exact .inr h'
        · omega)
  · intro k hk'
    rcases G5.out k hk' with h' | h'
    · exact hfr k h'
    · exact .inr (Nat.le_trans hk.size h')

set_option maxHeartbeats 400000 in
theorem penbytes_any (b base : Nat) (v : Value) (l : List UInt8) (bad : Bool) (w : World) (h : PenAt w base b v l bad) (hl : l.length ≤ 1000000) :
    Calls Try.prog 33 #[.pointer (some ⟨b, 0, none⟩)] w fun e w' => ∃ v', e = .returned v' ∧ Own w' w.heap.size v' l ∧ Below w.heap.size w w' := by
  have hc0 := h.cell0
  go_enter Try.func33, Try.ntmps33
  go_wp2_with fail
  refine (clone_any v l w h.2.1.rd (by omega)).mono ?_
  rintro e w1 ⟨v1, rfl, ho, hb⟩
  go_wp2
  go_ret
  exact ⟨v1, rfl, ho, hb⟩

set_option maxHeartbeats 400000 in
theorem penbytes_nil (w : World) :
    Calls Try.prog 33 #[.pointer none] w fun e w' => e = .returned (.slice none 0 0) ∧ w = w' := by
  go_enter Try.func33, Try.ntmps33
  go_wp2
  go_ret
  exact ⟨rfl, rfl⟩

end Go.Proofs.Ytafpgglebjllbaa
