/-
  A pen's Text, of longer texts: its contract.
-/
import Derived.Test.YtafpgglebjllbaaPen2
namespace Go.Proofs.Ytafpgglebjllbaa
open Go.RowKit

set_option maxRecDepth 100000 in
set_option maxHeartbeats 1000000 in
theorem pentext_long (b base : Nat) (v : Value) (l : List UInt8) (t : Value) (m : List UInt8) (w : World) (h : PenAt w base b v l false) (ht : Rd w t m) (hsep : ∀ k, t.ownBlock = some k → ¬ penS b v k) (hl : l.length ≤ 800000) (hm : m.length ≤ 10000) (hbase : base ≤ w.heap.size) :
    Calls Try.prog 31 #[.pointer (some ⟨b, 0, none⟩), t] w fun e w' => e = .returned (.tuple #[]) ∧ Wrote w base b v l (Ink.text m) w' := by
  have hc1 := h.cell1
  obtain ⟨n, hn⟩ : ∃ n, n = m.length := ⟨_, rfl⟩
  obtain ⟨ta, tc, rfl⟩ : ∃ ta tc, t = .slice ta n tc := by
    obtain ⟨ta, tc, e, _⟩ := ht
    exact ⟨ta, tc, by rw [hn, e]⟩
  rw [← hn] at hm
  have HN := hid hn
  clear hn
  go_enter Try.func31, Try.ntmps31
  go_wp2_with fail
  refine (pennum_at b base v l n _ (by first | rfl | omega) (by omega) w h (by omega) hbase).mono ?_
  rintro e w1 ⟨rfl, v1, hp, hk, hfr⟩
  have ht1 := ht.keeps hk hsep
  obtain ⟨ad, cp, rfl⟩ : ∃ ad cp, v1 = .slice ad (l.length + (Ink.num n).length) cp := by
    obtain ⟨ad, cp, e, _⟩ := hp.2.1.rd
    rw [List.length_append] at e
    exact ⟨ad, cp, e⟩
  have hcell := hp.cell0
  have hbs : base ≤ w1.heap.size := Nat.le_trans hbase hk.size
  have hnl := (Ink.num_length n).1
  have HT := hid (show (l ++ Ink.num n) ++ m = l ++ Ink.text m by unfold Ink.text; rw [HN.out, List.append_assoc])
  clear hc1
  go_wp2_with (at_builtin; go_must (refine appf rfl (.tmp 21) (.tmp 22) rfl base (.slice ad (l.length + (Ink.num n).length) cp) _ (l ++ Ink.num n) m (l ++ Ink.text m) (l.length + (Ink.num n).length + n) rfl rfl hp.2.1 ht1 (by rw [List.length_append, HN.out]) HT.out (by rw [List.length_append, ← HN.out]; omega) hbs ?_); intro ad4 cp4 w4 hown4 hgrow4 hq4; obtain ⟨g1, g2, g3, g4, g5⟩ := hp.appended (Below.refl _ _) hgrow4 hown4 hq4; have G3 := hid g3; have G4 := hid g4; have G5 := hid g5; clear g3 g4 g5 hgrow4 hown4 hq4)
  go_end0
  refine ⟨rfl, _, G3.out, ?_, ?_⟩
  · exact hk.trans' G4.out (fun i hi hs => by
      rcases hs with rfl | hs
      · exact .inl rfl
      · rcases hfr i hs with h' | h'
        · exact .inr h'
        · omega)
  · intro k hk'
    rcases G5.out k hk' with h' | h'
    · exact hfr k h'
    · exact .inr (Nat.le_trans hk.size h')

end Go.Proofs.Ytafpgglebjllbaa
