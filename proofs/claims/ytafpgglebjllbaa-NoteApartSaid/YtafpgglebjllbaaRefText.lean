/-
  The document's eye: Text; ends: their contracts.
-/
import Derived.Test.YtafpgglebjllbaaRefEye
namespace Go.Proofs.Ytafpgglebjllbaa
open Go.RowKit

theorem eyeend_good (base b : Nat) (v : Value) (w : World) (h : EyeSt w base b v (some [])) :
    Calls Try.prog 69 #[.pointer (some ⟨b, 0, none⟩)] w fun e w' => e = .returned (.int .i64 0) ∧ w = w' := end_good base b v w h

theorem eyeend_bad (base b : Nat) (v : Value) (s : Option (List UInt8)) (w : World) (h : EyeSt w base b v s) (hs : s ≠ some []) :
    Calls Try.prog 69 #[.pointer (some ⟨b, 0, none⟩)] w fun e w' => e = .returned (.int .i64 4) ∧ w = w' := by
  refine end_bad base b v _ _ w h ?_
  cases s with
  | none => exact .inl rfl
  | some r => exact .inr (fun e => hs (by rw [show r = [] from e]))

theorem refend_good (base b : Nat) (v : Value) (w : World) (h : RefAt w base b v (some [])) :
    Calls Try.prog 76 #[.pointer (some ⟨b, 0, none⟩)] w fun e w' => e = .returned (.bool true) ∧ w = w' := refend_st base b v _ w h

theorem refend_bad (base b : Nat) (v : Value) (s : Option (List UInt8)) (w : World) (h : RefAt w base b v s) (hs : s ≠ some []) :
    Calls Try.prog 76 #[.pointer (some ⟨b, 0, none⟩)] w fun e w' => e = .returned (.bool false) ∧ w = w' := by
  have := refend_st base b v s w h
  rwa [decide_eq_false hs] at this

/-- A piece in front, in any world that differs in the eye's block alone. -/
theorem set_keeps (w : World) (b j : Nat) (V : Value) : Keeps (fun k => k = b) w (w.setCell ⟨b, j, none⟩ V) := (Keeps.refl (fun k => k = b) w).setCell (p := ⟨b, j, none⟩) (fun _ => rfl) _

set_option maxHeartbeats 1000000 in
theorem reftext_st (base b : Nat) (v : Value) (s : Option (List UInt8)) (w : World) (h : RefAt w base b v s) (hlen : (s.getD []).length ≤ 1000000) :
    Calls Try.prog 75 #[.pointer (some ⟨b, 0, none⟩)] w fun e w' => ∃ u, e = .returned u ∧ Own w' w.heap.size u (Ink.stText s).1 ∧ RefTo w base b (Ink.stText s).2 w' := by
  have hnum := refeyenum_st base b v s w h
  have hle := Ink.stNum_le s
  have hb : Ink.stText s = match Ink.stNum s with
      | (_, none) => ([], none)
      | (n, some r) => if r.length < n then ([], none) else (r.take n, some (r.drop n)) := rfl
  obtain ⟨n, s', hs⟩ : ∃ n s', Ink.stNum s = (n, s') := ⟨_, _, rfl⟩
  rw [hs] at hnum hb hle
  have HNUM := hid hnum
  have HBL := hid h.lt
  clear hnum hs h
  cases s' with
  | none =>
    have HB := hid (show Ink.stText s = ([], none) from hb)
    clear hb hle
    go_enter Try.func75, Try.ntmps75
    go_wp2_with fail
    refine HNUM.out.mono ?_
    rintro e w1 ⟨rfl, v1, h1, hk1⟩
    have hc1 : w1.cell? ⟨b, 1, none⟩ = some (.bool true) := h1.cell1
    go_wp2
    go_ret
    rw [HB.out]
    exact ⟨_, rfl, Own.nil _ _, _, h1, hk1⟩
  | some r =>
    have hrl : r.length ≤ 1000000 := by simp only [Option.getD_some] at hle; omega
    clear hle
    by_cases c : r.length < n
    · have HB := hid (show Ink.stText s = ([], none) by rw [hb]; exact if_pos c)
      clear hb
      have cI : (r.length : Int) < (n : Int) := by omega
      go_enter Try.func75, Try.ntmps75
      go_wp2_with fail
      refine HNUM.out.mono ?_
      rintro e w1 ⟨rfl, v1, h1, hk1⟩
      have hc0 : w1.cell? ⟨b, 0, none⟩ = some v1 := h1.cell0
      have hc1 : w1.cell? ⟨b, 1, none⟩ = some (.bool false) := h1.cell1
      have hz0 := h1.frozen 0
      have hz1 := h1.frozen 1
      have H1 := hid h1
      obtain ⟨a, cap, rfl, _⟩ := h1.2.1
      simp only [Option.getD_some] at hc0
      clear h1
      go_wp2
      go_ret
      rw [HB.out]
      have hp := H1.out.put (V := .slice none 0 0) (s' := none) (Rd.nil _) (.inl rfl)
      exact ⟨_, rfl, Own.nil _ _, _, hp.1, hk1.trans hp.2⟩
    · have HB := hid (show Ink.stText s = (r.take n, some (r.drop n)) by rw [hb]; exact if_neg c)
      clear hb
      have cI : ¬ (r.length : Int) < (n : Int) := by omega
      have cN : n ≤ r.length := by omega
      clear c
      by_cases hpos : 0 < r.length
      · go_enter Try.func75, Try.ntmps75
        go_wp2_with fail
        refine HNUM.out.mono ?_
        rintro e w1 ⟨rfl, v1, h1, hk1⟩
        have hc0 : w1.cell? ⟨b, 0, none⟩ = some v1 := h1.cell0
        have hc1 : w1.cell? ⟨b, 1, none⟩ = some (.bool false) := h1.cell1
        have hz0 := h1.frozen 0
        have H1 := hid h1
        obtain ⟨vb, off, cap, e, g1, g2, g3, hc⟩ := h1.2.1.pos hpos
        simp only [Option.getD_some] at e g1 hc
        subst e
        unfold maxLen at g2
        have HC := hid hc
        have hvb := hid (show vb < base by
          rcases H1.out.2.2.1 with h | h
          · rw [show r = [] from h] at hpos; exact absurd hpos (by simp)
          · exact h vb rfl)
        have rpart := hid (show Rd w1 (.slice (some ⟨vb, off, none⟩) n cap) (r.take n) by
          have := Rd.part g1 g2 hc 0 n off cap (by omega) rfl rfl
          simpa using this)
        have rset := hid (show ∀ V, Rd (w1.setCell ⟨b, 0, none⟩ V) (.slice (some ⟨vb, off, none⟩) n cap) (r.take n) from fun V => rpart.out.keeps (set_keeps w1 b 0 V) (fun k hk e => by
          simp [Value.ownBlock] at hk
          have := hvb.out
          have := H1.out.2.2.2
          omega))
        have hnc : n ≤ cap := by omega
        have HR := hid (show ∀ o k, k = cap - n → (r.length - n = 0 ∨ o = off + n) → Rd w1 (.slice (some ⟨vb, o, none⟩) (r.length - n) k) (r.drop n) from by
          intro o k hcc ho
          subst hcc
          rcases ho with ho | rfl
          · rw [List.drop_eq_nil_of_le (by omega), ho]
            exact ⟨_, _, rfl, by simp, by unfold maxLen; omega, (fun h => by cases h), fun _ _ j hj => by cases hj⟩
          · have := Rd.part g1 g2 HC.out n (r.length - n) (off + n) (cap - n) (by omega) rfl rfl
            rwa [List.take_of_length_le (by simp)] at this)
        have htl := hid (show n = (r.take n).length by simp; omega)
        have hsz := hid hk1.size
        clear h1 hc
        by_cases cc : cap = n
        · have hr0 : r.length = n := by omega
          subst cc
          go_wp2_with (at_builtin; go_must (refine appk rfl (.tmp 40) (.tmp 41) rfl (w1.setCell ⟨b, 0, none⟩ (.slice (some ⟨vb, off, none⟩) 0 0)).heap.size (.slice (some ⟨w1.heap.size, 0, none⟩) 0 0) _ [] (r.take cap) (r.take cap) cap rfl rfl (by have := Own.empty (w1.setCell ⟨b, 0, none⟩ (.slice (some ⟨vb, off, none⟩) 0 0)) _ (Nat.le_refl _); simpa [World.setCell] using this) ((rset.out _).alloc _) (by rw [List.length_nil, Nat.zero_add]; exact htl.out) rfl (by rw [List.length_nil, ← htl.out]; omega) (by simp) ?_); intro ad4 cp4 w4 hown4 hgrow4)
          go_ret
          have hV : Rd w1 (.slice (some ⟨vb, off, none⟩) 0 0) (r.drop cap) := by
            have := HR.out off 0 (by omega) (.inl (by omega))
            rwa [show r.length - cap = 0 by omega] at this
          have hm := H1.out.moved hV (.inr (fun k hk => by simp [Value.ownBlock] at hk; have := hvb.out; omega))
          have hb4 : Below (w1.setCell ⟨b, 0, none⟩ (.slice (some ⟨vb, off, none⟩) 0 0)).heap.size (w1.setCell ⟨b, 0, none⟩ (.slice (some ⟨vb, off, none⟩) 0 0)) w4 :=
            ((Below.refl _ _).alloc (Nat.le_refl _) _).grown hgrow4 (by simp) (fun k hk => by simp [Value.ownBlock] at hk; subst hk; simp [World.setCell])
          rw [HB.out]
          refine ⟨_, rfl, hown4.base (fun k hk => ?_), _, hm.1.below hb4, (hk1.trans hm.2).trans (Keeps.of_below hb4 (fun i hi hs => by omega))⟩
          have := (hown4.lt k hk).1
          have := hsz.out
          have := hm.2.size
          omega
        · go_wp2_with (at_builtin; go_must (refine appk rfl (.tmp 40) (.tmp 41) rfl (w1.setCell ⟨b, 0, none⟩ (.slice (some ⟨vb, off + n, none⟩) (r.length - n) (cap - n))).heap.size (.slice (some ⟨w1.heap.size, 0, none⟩) 0 0) _ [] (r.take n) (r.take n) n rfl rfl (by have := Own.empty (w1.setCell ⟨b, 0, none⟩ (.slice (some ⟨vb, off + n, none⟩) (r.length - n) (cap - n))) _ (Nat.le_refl _); simpa [World.setCell] using this) ((rset.out _).alloc _) (by rw [List.length_nil, Nat.zero_add]; exact htl.out) rfl (by rw [List.length_nil, ← htl.out]; omega) (by simp) ?_); intro ad4 cp4 w4 hown4 hgrow4)
          go_ret
          have hV : Rd w1 (.slice (some ⟨vb, off + n, none⟩) (r.length - n) (cap - n)) (r.drop n) := HR.out _ _ rfl (.inr rfl)
          have hm := H1.out.moved hV (.inr (fun k hk => by simp [Value.ownBlock] at hk; have := hvb.out; omega))
          have hb4 : Below (w1.setCell ⟨b, 0, none⟩ (.slice (some ⟨vb, off + n, none⟩) (r.length - n) (cap - n))).heap.size (w1.setCell ⟨b, 0, none⟩ (.slice (some ⟨vb, off + n, none⟩) (r.length - n) (cap - n))) w4 :=
            ((Below.refl _ _).alloc (Nat.le_refl _) _).grown hgrow4 (by simp) (fun k hk => by simp [Value.ownBlock] at hk; subst hk; simp [World.setCell])
          rw [HB.out]
          refine ⟨_, rfl, hown4.base (fun k hk => ?_), _, hm.1.below hb4, (hk1.trans hm.2).trans (Keeps.of_below hb4 (fun i hi hs => by omega))⟩
          have := (hown4.lt k hk).1
          have := hsz.out
          have := hm.2.size
          omega
      · have hr : r = [] := List.eq_nil_of_length_eq_zero (by omega)
        subst hr
        obtain rfl : n = 0 := by simpa using cN
        clear cI cN hrl hpos
        go_enter Try.func75, Try.ntmps75
        go_wp2_with fail
        refine HNUM.out.mono ?_
        rintro e w1 ⟨rfl, v1, h1, hk1⟩
        have hc0 : w1.cell? ⟨b, 0, none⟩ = some v1 := h1.cell0
        have hc1 : w1.cell? ⟨b, 1, none⟩ = some (.bool false) := h1.cell1
        have hz0 := h1.frozen 0
        have H1 := hid h1
        have hsz := hid hk1.size
        obtain ⟨a, cap, e, _, g2, g3, _⟩ := h1.2.1
        simp only [Option.getD_some, List.length_nil] at e
        subst e
        unfold maxLen at g2
        have R0 := hid (show ∀ w, Rd w (.slice a 0 cap) [] from fun w => ⟨a, cap, rfl, Nat.zero_le _, by unfold maxLen; omega, g3, fun _ _ j hj => by cases hj⟩)
        clear h1
        rcases a with _ | x
        · obtain rfl : cap = 0 := g3 rfl
          go_wp2_with (at_builtin; go_must (refine appk rfl (.tmp 40) (.tmp 41) rfl (w1.setCell ⟨b, 0, none⟩ (.slice none 0 0)).heap.size (.slice (some ⟨w1.heap.size, 0, none⟩) 0 0) _ [] [] [] 0 rfl rfl (by have := Own.empty (w1.setCell ⟨b, 0, none⟩ (.slice none 0 0)) _ (Nat.le_refl _); simpa [World.setCell] using this) (R0.out _) rfl rfl (by simp) (by simp) ?_); intro ad4 cp4 w4 hown4 hgrow4)
          go_ret
          have hm := H1.out.moved (V := .slice none 0 0) (r' := []) (R0.out _) (.inl rfl)
          have hb4 : Below (w1.setCell ⟨b, 0, none⟩ (.slice none 0 0)).heap.size (w1.setCell ⟨b, 0, none⟩ (.slice none 0 0)) w4 :=
            ((Below.refl _ _).alloc (Nat.le_refl _) _).grown hgrow4 (by simp) (fun k hk => by simp [Value.ownBlock] at hk; subst hk; simp [World.setCell])
          rw [HB.out]
          refine ⟨_, rfl, hown4.base (fun k hk => ?_), _, hm.1.below hb4, (hk1.trans hm.2).trans (Keeps.of_below hb4 (fun i hi hs => by omega))⟩
          have := (hown4.lt k hk).1
          have := hsz.out
          have := hm.2.size
          omega
        · go_wp2_with (at_builtin; go_must (refine appk rfl (.tmp 40) (.tmp 41) rfl (w1.setCell ⟨b, 0, none⟩ (.slice (some x) 0 cap)).heap.size (.slice (some ⟨w1.heap.size, 0, none⟩) 0 0) _ [] [] [] 0 rfl rfl (by have := Own.empty (w1.setCell ⟨b, 0, none⟩ (.slice (some x) 0 cap)) _ (Nat.le_refl _); simpa [World.setCell] using this) (R0.out _) rfl rfl (by simp) (by simp) ?_); intro ad4 cp4 w4 hown4 hgrow4)
          go_ret
          have hm := H1.out.moved (V := .slice (some x) 0 cap) (r' := []) (R0.out _) (.inl rfl)
          have hb4 : Below (w1.setCell ⟨b, 0, none⟩ (.slice (some x) 0 cap)).heap.size (w1.setCell ⟨b, 0, none⟩ (.slice (some x) 0 cap)) w4 :=
            ((Below.refl _ _).alloc (Nat.le_refl _) _).grown hgrow4 (by simp) (fun k hk => by simp [Value.ownBlock] at hk; subst hk; simp [World.setCell])
          rw [HB.out]
          refine ⟨_, rfl, hown4.base (fun k hk => ?_), _, hm.1.below hb4, (hk1.trans hm.2).trans (Keeps.of_below hb4 (fun i hi hs => by omega))⟩
          have := (hown4.lt k hk).1
          have := hsz.out
          have := hm.2.size
          omega

end Go.Proofs.Ytafpgglebjllbaa
