/-
  An eye's calls, as what it answers and what it leaves: their contracts.
-/
import Derived.Test.YtafpgglebjllbaaEye
import Derived.Test.YtafpgglebjllbaaInkS
import Derived.Test.YtafpgglebjllbaaAwake1
import Derived.Test.YtafpgglebjllbaaMat
namespace Go.Proofs.Ytafpgglebjllbaa
open Go.RowKit

/-- An eye that has s left (none: it has failed). -/
def EyeSt (w : World) (base b : Nat) (v : Value) (s : Option (List UInt8)) : Prop := EyeAt w base b v (s.getD []) s.isNone

/-- What a call of an eye may leave. -/
def EyeTo (w : World) (base b : Nat) (v : Value) (s : Option (List UInt8)) (w' : World) : Prop := ∃ v', EyeSt w' base b v' s ∧ Keeps (fun k => k = b) w w' ∧ ∀ k, v'.ownBlock = some k → v.ownBlock = some k

theorem EyeSt.drewN {w : World} {base b : Nat} {v : Value} {s : Option (List UInt8)} (h : EyeSt w base b v s) (n : Nat) : EyeSt (w.drewN n) base b v s := ⟨h.1, h.2.1.drewN n, h.2.2.1, h.2.2.2⟩

theorem stBelow_le (L : Nat) (s : Option (List UInt8)) : ((Ink.stBelow L s).2.getD []).length ≤ (s.getD []).length := by
  unfold Ink.stBelow
  split
  · simp
  · exact Ink.stNum_le s

theorem stText_le (s : Option (List UInt8)) : ((Ink.stText s).2.getD []).length ≤ (s.getD []).length := by
  have h := Ink.stNum_le s
  unfold Ink.stText
  split
  · simp
  · rename_i e
    rw [e] at h
    simp only [Option.getD_some] at h
    split
    · simp
    · simp
      omega

theorem eyenum_st (base b : Nat) (v : Value) (s : Option (List UInt8)) (w : World) (h : EyeSt w base b v s) :
    Calls Try.prog 68 #[.pointer (some ⟨b, 0, none⟩)] w fun e w' => e = .returned (.int .u64 ((Ink.stNum s).1 : Int)) ∧ EyeTo w base b v (Ink.stNum s).2 w' := by
  cases s with
  | none =>
    refine (eyenum_failed base b v [] w h).mono ?_
    rintro e w' ⟨rfl, rfl⟩
    exact ⟨rfl, v, h, Keeps.refl _ _, fun _ h => h⟩
  | some r =>
    by_cases hz : (Ink.front r).2 = 0
    · refine (eyenum_none base b v r w h (Ink.front_zero r hz)).mono ?_
      rintro e w' ⟨rfl, h1, h2⟩
      have hs : Ink.stNum (some r) = (0, none) := by simp only [Ink.stNum]; rw [if_pos hz]
      rw [hs]
      exact ⟨rfl, _, h1, h2, fun k hk => by simp [Value.ownBlock] at hk⟩
    · refine (eyenum_some base b v r (Ink.front r).1 (Ink.front r).2 w h rfl (by omega) (Ink.front_le r)).mono ?_
      rintro e w' ⟨rfl, v', h1, h2, h3⟩
      have hs : Ink.stNum (some r) = ((Ink.front r).1, some (r.drop (Ink.front r).2)) := by simp only [Ink.stNum]; rw [if_neg hz]
      rw [hs]
      exact ⟨rfl, v', h1, h2, fun k hk => by rw [← h3]; exact hk⟩

theorem stBelow_lt (L : Nat) (hL : 0 < L) (s : Option (List UInt8)) : (Ink.stBelow L s).1 < L := by
  unfold Ink.stBelow
  split
  · exact hL
  · omega

set_option maxHeartbeats 400000 in
theorem eyebelow_st (L : Nat) (z : Int) (hz : z = (L : Int)) (base b : Nat) (v : Value) (s : Option (List UInt8)) (w : World) (h : EyeSt w base b v s) :
    Calls Try.prog 71 #[.pointer (some ⟨b, 0, none⟩), .int .u64 z] w fun e w' => e = .returned (.int .u64 ((Ink.stBelow L s).1 : Int)) ∧ EyeTo w base b v (Ink.stBelow L s).2 w' := by
  subst hz
  have hnum := eyenum_st base b v s w h
  have hb : Ink.stBelow L s = if L ≤ (Ink.stNum s).1 then (0, none) else Ink.stNum s := rfl
  obtain ⟨n, s', hs⟩ : ∃ n s', Ink.stNum s = (n, s') := ⟨_, _, rfl⟩
  rw [hs] at hnum hb
  have HB := hid hb
  have HNUM := hid hnum
  clear hb hnum hs h
  by_cases c : L ≤ n
  · go_enter Try.func71, Try.ntmps71
    go_wp2_with fail
    refine HNUM.out.mono ?_
    rintro e w1 ⟨rfl, v1, h1, hk1, hv1⟩
    have cI : (L : Int) ≤ (n : Int) := by omega
    go_wp2_with fail
    refine (fail_any base b v1 _ _ w1 h1).mono ?_
    rintro e w2 ⟨rfl, hf, hk2⟩
    go_wp2
    go_ret
    rw [HB.out, if_pos c]
    exact ⟨rfl, _, hf, hk1.trans hk2, fun k hk => by simp [Value.ownBlock] at hk⟩
  · go_enter Try.func71, Try.ntmps71
    go_wp2_with fail
    refine HNUM.out.mono ?_
    rintro e w1 ⟨rfl, v1, h1, hk1, hv1⟩
    have cI : ¬ (L : Int) ≤ (n : Int) := by omega
    go_wp2
    go_ret
    rw [HB.out, if_neg c]
    exact ⟨rfl, _, h1, hk1, hv1⟩

set_option maxHeartbeats 400000 in
theorem eyeint_st (base b : Nat) (v : Value) (s : Option (List UInt8)) (w : World) (h : EyeSt w base b v s) :
    Calls Try.prog 41 #[.pointer (some ⟨b, 0, none⟩)] w fun e w' => e = .returned (.int .i64 ((Ink.stBelow 2147483648 s).1 : Int)) ∧ EyeTo w base b v (Ink.stBelow 2147483648 s).2 w' := by
  have hb := eyebelow_st 2147483648 2147483648 rfl base b v s w h
  have hlt := stBelow_lt 2147483648 (by omega) s
  obtain ⟨r, hr⟩ : ∃ r, r = Ink.stBelow 2147483648 s := ⟨_, rfl⟩
  rw [← hr] at hb hlt ⊢
  obtain ⟨n, s'⟩ := r
  have HB := hid hb
  have hw : IntKind.i64.wrap (n : Int) = (n : Int) := IntWalk.i64_in _ (by simp only at hlt; omega)
  clear hb hr hlt h
  go_enter Try.func41, Try.ntmps41
  go_wp2_with fail
  refine HB.out.mono ?_
  rintro e w1 ⟨rfl, h1⟩
  go_wp2
  go_ret
  exact ⟨rfl, h1⟩

set_option maxHeartbeats 400000 in
theorem eyebool_st (base b : Nat) (v : Value) (s : Option (List UInt8)) (w : World) (h : EyeSt w base b v s) :
    Calls Try.prog 47 #[.pointer (some ⟨b, 0, none⟩)] w fun e w' => e = .returned (.bool (decide ((Ink.stBelow 2 s).1 = 1))) ∧ EyeTo w base b v (Ink.stBelow 2 s).2 w' := by
  have hb := eyebelow_st 2 2 rfl base b v s w h
  have hlt := stBelow_lt 2 (by omega) s
  obtain ⟨r, hr⟩ : ∃ r, r = Ink.stBelow 2 s := ⟨_, rfl⟩
  rw [← hr] at hb hlt ⊢
  obtain ⟨n, s'⟩ := r
  have HB := hid hb
  have hn : n = 0 ∨ n = 1 := by simp only at hlt; omega
  clear hb hr hlt h
  rcases hn with rfl | rfl
  all_goals
    go_enter Try.func47, Try.ntmps47
    go_wp2_with fail
    refine HB.out.mono ?_
    rintro e w1 ⟨rfl, h1⟩
    go_wp2
    go_ret
    exact ⟨rfl, h1⟩

set_option maxHeartbeats 1000000 in
theorem eyetext_st (base b : Nat) (v : Value) (s : Option (List UInt8)) (w : World) (h : EyeSt w base b v s) (hlen : (s.getD []).length ≤ 1000000) :
    Calls Try.prog 42 #[.pointer (some ⟨b, 0, none⟩)] w fun e w' => ∃ u, e = .returned u ∧ Own w' w.heap.size u (Ink.stText s).1 ∧ EyeTo w base b v (Ink.stText s).2 w' := by
  have hnum := eyenum_st base b v s w h
  have hle := Ink.stNum_le s
  have hb : Ink.stText s = match Ink.stNum s with
      | (_, none) => ([], none)
      | (n, some r) => if r.length < n then ([], none) else (r.take n, some (r.drop n)) := rfl
  obtain ⟨n, s', hs⟩ : ∃ n s', Ink.stNum s = (n, s') := ⟨_, _, rfl⟩
  rw [hs] at hnum hb hle
  have HNUM := hid hnum
  have HBL := hid (show b < w.heap.size from EyeAt.lt h)
  clear hnum hs h
  cases s' with
  | none =>
    have HB := hid (show Ink.stText s = ([], none) from hb)
    clear hb hle
    go_enter Try.func42, Try.ntmps42
    go_wp2_with fail
    refine HNUM.out.mono ?_
    rintro e w1 ⟨rfl, v1, h1, hk1, hv1⟩
    have hc1 : w1.cell? ⟨b, 1, none⟩ = some (.bool true) := h1.cell1
    go_wp2
    go_ret
    rw [HB.out]
    exact ⟨_, rfl, Own.nil _ _, _, h1, hk1, hv1⟩
  | some r =>
    have hrl : r.length ≤ 1000000 := by simp only [Option.getD_some] at hle; omega
    clear hle
    by_cases c : r.length < n
    · have HB := hid (show Ink.stText s = ([], none) by rw [hb]; exact if_pos c)
      clear hb
      have cI : (r.length : Int) < (n : Int) := by omega
      go_enter Try.func42, Try.ntmps42
      go_wp2_with fail
      refine HNUM.out.mono ?_
      rintro e w1 ⟨rfl, v1, h1, hk1, hv1⟩
      have hc0 : w1.cell? ⟨b, 0, none⟩ = some v1 := h1.cell0
      have hc1 : w1.cell? ⟨b, 1, none⟩ = some (.bool false) := h1.cell1
      have H1 := hid h1
      obtain ⟨a, cap, rfl, _⟩ := h1.2.1
      clear h1
      go_wp2_with fail
      refine (fail_any base b _ _ _ w1 H1.out).mono ?_
      rintro e w2 ⟨rfl, hf, hk2⟩
      go_wp2
      go_ret
      rw [HB.out]
      exact ⟨_, rfl, Own.nil _ _, _, hf, hk1.trans hk2, fun k hk => by simp [Value.ownBlock] at hk⟩
    · have HB := hid (show Ink.stText s = (r.take n, some (r.drop n)) by rw [hb]; exact if_neg c)
      clear hb
      have cI : ¬ (r.length : Int) < (n : Int) := by omega
      have cN : n ≤ r.length := by omega
      clear c
      by_cases hpos : 0 < r.length
      · go_enter Try.func42, Try.ntmps42
        go_wp2_with fail
        refine HNUM.out.mono ?_
        rintro e w1 ⟨rfl, v1, h1, hk1, hv1⟩
        have hc0 : w1.cell? ⟨b, 0, none⟩ = some v1 := h1.cell0
        have hc1 : w1.cell? ⟨b, 1, none⟩ = some (.bool false) := h1.cell1
        have H1 := hid h1
        obtain ⟨vb, off, cap, e, g1, g2, g3, hc⟩ := h1.2.1.pos hpos
        simp only [Option.getD_some] at e g1 hc
        subst e
        unfold maxLen at g2
        have HC := hid hc
        have rpart := hid (show Rd w1 (.slice (some ⟨vb, off, none⟩) n cap) (r.take n) by
          have := Rd.part g1 g2 hc 0 n off cap (by omega) rfl rfl
          simpa using this)
        have hnc : n ≤ cap := by omega
        have hlen2 : (r.take n).length ≤ 140737488355328 := by simp; omega
        clear h1 hc
        go_wp2_with fail
        refine (clone_any _ (r.take n) w1 rpart.out hlen2).mono ?_
        rintro e w2 ⟨u, rfl, hou, hb2⟩
        have H2 := hid (H1.out.below hb2)
        have hk2 : Keeps (fun k => k = b) w w2 := hk1.trans' (T := fun k => w1.heap.size ≤ k) (Keeps.of_below hb2 (fun _ _ h => h)) (fun i hi hs => by have := hk1.size; omega)
        have hc0 : w2.cell? ⟨b, 0, none⟩ = some _ := H2.out.cell0
        have hz0 := H2.out.frozen 0
        have HR := hid (show ∀ o k, k = cap - n → (r.length - n = 0 ∨ o = off + n) → Rd w2 (.slice (some ⟨vb, o, none⟩) (r.length - n) k) (r.drop n) from by
          intro o k hcc ho
          subst hcc
          refine Rd.below ?_ hb2
          rcases ho with ho | rfl
          · rw [List.drop_eq_nil_of_le (by omega), ho]
            exact ⟨_, _, rfl, by simp, by unfold maxLen; omega, (fun h => by cases h), fun _ _ j hj => by cases hj⟩
          · have := Rd.part g1 g2 HC.out n (r.length - n) (off + n) (cap - n) (by omega) rfl rfl
            rwa [List.take_of_length_le (by simp)] at this)
        have hown := hid (hou.base (b' := w.heap.size) (fun k hk => Nat.le_trans hk1.size (hou.lt k hk).1))
        clear hou hb2
        by_cases cc : cap = n
        · have hr0 : r.length = n := by omega
          subst cc
          go_wp2
          go_ret
          have hV : Rd w2 (.slice (some ⟨vb, off, none⟩) 0 0) (r.drop cap) := by
            have := HR.out off 0 (by omega) (.inl (by omega))
            rwa [show r.length - cap = 0 by omega] at this
          have hm := H2.out.moved hV rfl
          rw [HB.out]
          refine ⟨_, rfl, hown.out.keeps hm.2 ?_, _, hm.1, hk2.trans hm.2, hv1⟩
          intro k hk e
          subst e
          have := (hown.out.lt _ hk).1
          have := HBL.out
          omega
        · go_wp2
          go_ret
          have hV := HR.out _ _ rfl (.inr rfl)
          have hm := H2.out.moved hV rfl
          rw [HB.out]
          refine ⟨_, rfl, hown.out.keeps hm.2 ?_, _, hm.1, hk2.trans hm.2, hv1⟩
          intro k hk e
          subst e
          have := (hown.out.lt _ hk).1
          have := HBL.out
          omega
      · have hr : r = [] := List.eq_nil_of_length_eq_zero (by omega)
        subst hr
        obtain rfl : n = 0 := by simpa using cN
        clear cI cN hrl hpos
        go_enter Try.func42, Try.ntmps42
        go_wp2_with fail
        refine HNUM.out.mono ?_
        rintro e w1 ⟨rfl, v1, h1, hk1, hv1⟩
        have hc0 : w1.cell? ⟨b, 0, none⟩ = some v1 := h1.cell0
        have hc1 : w1.cell? ⟨b, 1, none⟩ = some (.bool false) := h1.cell1
        have H1 := hid h1
        obtain ⟨a, cap, e, _, g2, g3, _⟩ := h1.2.1
        simp only [Option.getD_some, List.length_nil] at e
        subst e
        unfold maxLen at g2
        have R0 := hid (show ∀ w c, c ≤ 9223372036854775807 → (a = none → c = 0) → Rd w (.slice a 0 c) [] from fun w c hc ha => ⟨a, c, rfl, Nat.zero_le _, by unfold maxLen; omega, ha, fun _ _ j hj => by cases hj⟩)
        clear h1
        rcases a with _ | x
        · obtain rfl : cap = 0 := g3 rfl
          go_wp2_with fail
          refine (clone_any _ [] w1 (Rd.nil _) (by simp)).mono ?_
          rintro e w2 ⟨u, rfl, hou, hb2⟩
          have H2 := hid (H1.out.below hb2)
          have hk2 : Keeps (fun k => k = b) w w2 := hk1.trans' (T := fun k => w1.heap.size ≤ k) (Keeps.of_below hb2 (fun _ _ h => h)) (fun i hi hs => by have := hk1.size; omega)
          have hc0 : w2.cell? ⟨b, 0, none⟩ = some _ := H2.out.cell0
          have hz0 := H2.out.frozen 0
          have hown := hid (hou.base (b' := w.heap.size) (fun k hk => Nat.le_trans hk1.size (hou.lt k hk).1))
          clear hou hb2
          go_wp2
          go_ret
          have hm := H2.out.moved (V := .slice none 0 0) (r' := []) (Rd.nil _) rfl
          rw [HB.out]
          refine ⟨_, rfl, hown.out.keeps hm.2 ?_, _, hm.1, hk2.trans hm.2, hv1⟩
          intro k hk e
          subst e
          have := (hown.out.lt _ hk).1
          have := HBL.out
          omega
        · go_wp2_with fail
          refine (clone_any _ [] w1 (R0.out w1 cap g2 (fun h => by cases h)) (by simp)).mono ?_
          rintro e w2 ⟨u, rfl, hou, hb2⟩
          have H2 := hid (H1.out.below hb2)
          have hk2 : Keeps (fun k => k = b) w w2 := hk1.trans' (T := fun k => w1.heap.size ≤ k) (Keeps.of_below hb2 (fun _ _ h => h)) (fun i hi hs => by have := hk1.size; omega)
          have hc0 : w2.cell? ⟨b, 0, none⟩ = some _ := H2.out.cell0
          have hz0 := H2.out.frozen 0
          have hown := hid (hou.base (b' := w.heap.size) (fun k hk => Nat.le_trans hk1.size (hou.lt k hk).1))
          clear hou hb2
          go_wp2
          go_ret
          have hm := H2.out.moved (V := .slice (some x) 0 cap) (r' := []) (R0.out _ _ g2 (fun h => by cases h)) rfl
          rw [HB.out]
          refine ⟨_, rfl, hown.out.keeps hm.2 ?_, _, hm.1, hk2.trans hm.2, hv1⟩
          intro k hk e
          subst e
          have := (hown.out.lt _ hk).1
          have := HBL.out
          omega

end Go.Proofs.Ytafpgglebjllbaa
