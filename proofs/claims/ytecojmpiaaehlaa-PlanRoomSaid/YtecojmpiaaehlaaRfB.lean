/-
  The document's free; which cells it takes, one by one.
-/
import Derived.Test.YtecojmpiaaehlaaRfA
namespace Go.Proofs.Ytecojmpiaaehlaa
open Go.RowKit Go.Shelf
set_option linter.unusedVariables false

theorem cnt_snoc (l : List Nat) (c t : Nat) : cnt (l ++ [c]) t = cnt l t + (if c ≤ t then 1 else 0) := by
  unfold cnt
  rw [List.filter_append, List.length_append]
  by_cases h : c ≤ t
  · rw [if_pos h, List.filter_cons_of_pos (by simpa using h)]; rfl
  · rw [if_neg h, List.filter_cons_of_neg (by simpa using h)]; rfl
theorem bndL_len (r : List Int) : (bndL r).length = r.length := by simp [bndL]
theorem bndL_at {r : List Int} {j : Nat} {x : Int} (h : r[j]? = some x) : (bndL r)[j]? = some (bnd x) := by
  unfold bndL; rw [List.getElem?_map, h]; rfl
theorem bndL_take {r : List Int} {j : Nat} {x : Int} (h : r[j]? = some x) : (bndL r).take (j + 1) = (bndL r).take j ++ [bnd x] := take_snoc'' _ _ _ (bndL_at h)

set_option maxHeartbeats 1000000 in
theorem free_any (w : World) (v : Value) (r : List Int) (t : Nat) (h : RdV w v (r.map iw)) :
    Calls Try.prog 28 #[v, .int .i64 t] w fun e w' => e = .returned (.int .i64 (cnt (bndL r) t : Nat)) ∧ w = w' := by
  obtain ⟨a, c, rfl, hc1, hc2⟩ := h.len
  rw [List.length_map] at hc1 h
  have HH := hid h
  clear h
  rw [List.length_map]
  go_enter Try.func28, Try.ntmps28
  go_wp2_with fail
  go_loopw [5, 10] (fun n i wr => ∃ k : Nat, k ≤ r.length ∧ i = .int .i64 k ∧ n = .int .i64 (cnt ((bndL r).take k) t : Nat) ∧ w = wr) (fun _ i _ => r.length - (intOf i).toNat)
  case atStart => exact ⟨0, Nat.zero_le _, rfl, by simp [cnt], rfl⟩
  case round =>
    obtain ⟨k, hk, rfl, rfl, rfl⟩ := hrel
    have hcl := cnt_len ((bndL r).take k) t
    rw [List.length_take, bndL_len] at hcl
    by_cases hlt : k < r.length
    · obtain ⟨x, hx⟩ : ∃ x, r[k]? = some x := ⟨_, List.getElem?_eq_getElem hlt⟩
      obtain ⟨-, b, off, rfl, -, hcell⟩ := HH.out.at k (iw x) (by rw [List.getElem?_map, hx]; rfl)
      have hcell2 : w.cell? ⟨b, off + k, none⟩ = some (.int .i64 x) := hcell
      have hki : (k : Int) < (r.length : Int) := by omega
      have HT := hid (show cnt ((bndL r).take (k + 1)) t = cnt ((bndL r).take k) t + (if bnd x ≤ t then 1 else 0) by rw [bndL_take hx, cnt_snoc])
      have hcb : cnt ((bndL r).take k) t ≤ 9223372036854775806 := by omega
      have HIN := hid (in_any x w)
      clear hcell hx hcl
      generalize cnt ((bndL r).take k) t = n at *
      generalize bnd x = y at *
      by_cases hyt : y ≤ t
      · have d1 : decide ((y : Int) ≤ (t : Int)) = true := decide_eq_true (by omega)
        have d2 : decide (y ≤ t) = true := decide_eq_true hyt
        rw [if_pos hyt] at HT
        clear hyt
        go_wp2_with fail
        refine HIN.out.mono ?_
        rintro e w' ⟨rfl, rfl⟩
        go_wp2
        go_roundw
        case rel => exact ⟨k + 1, hlt, by go_num, by rw [HT.out]; go_num, trivial⟩
        case measure => simp [intOf]; omega
      · have d1 : decide ((y : Int) ≤ (t : Int)) = false := decide_eq_false (by omega)
        have d2 : decide (y ≤ t) = false := decide_eq_false hyt
        rw [if_neg hyt] at HT
        clear hyt
        go_wp2_with fail
        refine HIN.out.mono ?_
        rintro e w' ⟨rfl, rfl⟩
        go_wp2
        go_roundw
        case rel => exact ⟨k + 1, hlt, by go_num, by rw [HT.out]; rfl, trivial⟩
        case measure => simp [intOf]; omega
    · have e : k = r.length := by omega
      have hki : ¬ (k : Int) < (r.length : Int) := by omega
      have HE := hid (show cnt ((bndL r).take k) t = cnt (bndL r) t by rw [e, ← bndL_len, List.take_length])
      clear e hlt hcl
      generalize cnt ((bndL r).take k) t = n at *
      go_wp2
      go_ret
      exact ⟨by rw [← HE.out]; rfl, rfl⟩

/-- The cells of a row that are taken so far: the soonest r. -/
def Tak (l : List Nat) (S : Nat → Bool) (r : Nat) : Prop := IsLow l S ∧ cntS l.length S = r
/-- The soonest of the first q that aren't taken. -/
def Best (l : List Nat) (S : Nat → Bool) (q : Nat) (m : Option Nat) : Prop := match m with
  | none => ∀ a, a < q → S a = true
  | some m => m < q ∧ S m = false ∧ ∀ a, a < q → S a = false → a = m ∨ Lo l m a
theorem Best.hit {l : List Nat} {S : Nat → Bool} {q : Nat} {m : Option Nat} (h : Best l S q m) (hs : S q = true) : Best l S (q + 1) m := by
  cases m with
  | none => intro a ha; by_cases e : a = q
            · rw [e]; exact hs
            · exact h a (by omega)
  | some m =>
    refine ⟨by have := h.1; omega, h.2.1, fun a ha hsa => ?_⟩
    by_cases e : a = q
    · rw [e, hs] at hsa; cases hsa
    · exact h.2.2 a (by omega) hsa
theorem Best.first {l : List Nat} {S : Nat → Bool} {q : Nat} (h : Best l S q none) (hs : S q = false) : Best l S (q + 1) (some q) := by
  refine ⟨by omega, hs, fun a ha hsa => ?_⟩
  by_cases e : a = q
  · exact .inl e
  · have := h a (by omega); rw [hsa] at this; cases this
theorem Best.less {l : List Nat} {S : Nat → Bool} {q m : Nat} (h : Best l S q (some m)) (hs : S q = false) (hlt : l.getD q 0 < l.getD m 0) : Best l S (q + 1) (some q) := by
  refine ⟨by omega, hs, fun a ha hsa => ?_⟩
  by_cases e : a = q
  · exact .inl e
  · right
    rcases h.2.2 a (by omega) hsa with rfl | h1
    · exact .inl hlt
    · unfold Lo at h1 ⊢; omega
theorem Best.stay {l : List Nat} {S : Nat → Bool} {q m : Nat} (h : Best l S q (some m)) (hlt : ¬ l.getD q 0 < l.getD m 0) : Best l S (q + 1) (some m) := by
  refine ⟨by have := h.1; omega, h.2.1, fun a ha hsa => ?_⟩
  by_cases e : a = q
  · right; have := h.1; unfold Lo; rw [e]; omega
  · exact h.2.2 a (by omega) hsa
theorem cntS_put : ∀ (n : Nat) (S : Nat → Bool) (m : Nat), m < n → S m = false → cntS n (fun a => if a = m then true else S a) = cntS n S + 1
  | 0, _, _, h, _ => absurd h (Nat.not_lt_zero _)
  | n + 1, S, m, h, hs => by
    have hstep : ∀ T : Nat → Bool, cntS (n + 1) T = cntS n T + if T n then 1 else 0 := fun T => by
      unfold cntS
      rw [List.range_succ, List.filter_append, List.length_append]
      cases hT : T n with
      | true => rw [List.filter_cons_of_pos hT]; rfl
      | false => rw [List.filter_cons_of_neg (by rw [hT]; simp)]; rfl
    rw [hstep, hstep]
    by_cases e : m = n
    · subst e
      have : cntS m (fun a => if a = m then true else S a) = cntS m S := by
        unfold cntS
        congr 1
        refine List.filter_congr fun a ha => ?_
        have := List.mem_range.1 ha
        rw [if_neg (by omega)]
      rw [this, if_pos rfl, hs]
      simp
    · rw [cntS_put n S m (by omega) hs]
      rw [if_neg (Ne.symm e)]
      omega
theorem Tak.put {l : List Nat} {S : Nat → Bool} {r m : Nat} (h : Tak l S r) (hm : Best l S l.length (some m)) : Tak l (fun a => if a = m then true else S a) (r + 1) := by
  refine ⟨fun a b ha hb hs hl => ?_, by rw [cntS_put _ _ _ hm.1 hm.2.1, h.2]⟩
  dsimp only at hs ⊢
  by_cases e : a = m
  · rw [if_pos e]
  · rw [if_neg e]
    by_cases e2 : b = m
    · cases hsa : S a with
      | true => rfl
      | false =>
        exfalso
        rcases hm.2.2 a ha hsa with h1 | h1
        · exact e h1
        · rw [e2] at hl; unfold Lo at hl h1; omega
    · rw [if_neg e2] at hs
      exact h.1 a b ha hb hs hl
theorem Tak.room {l : List Nat} {S : Nat → Bool} {r : Nat} (h : Tak l S r) (hr : r < l.length) : ¬ Best l S l.length none := fun hb => by
  have h1 : cntS l.length S = l.length := by
    unfold cntS
    rw [List.filter_eq_self.2 fun a ha => hb a (List.mem_range.1 ha), List.length_range]
  have := h.2
  omega
/-- Behind k of them. -/
theorem Tak.sel {l : List Nat} {S : Nat → Bool} {k t : Nat} (h : Tak l S k) (hk : 1 ≤ k) (ht : rowT l k = some t) : (List.range l.length).filter S = sel l k t := by
  unfold Go.Proofs.Ytecojmpiaaehlaa.sel selTo
  refine List.filter_congr fun a ha => ?_
  exact low_uniq h.1 (pick_low l k t) (by rw [h.2, sel_cnt hk ht]) (List.mem_range.1 ha)
theorem tak0 (l : List Nat) : Tak l (fun _ => false) 0 := ⟨(fun a b _ _ h => by cases h), (by unfold cntS; simp)⟩

end Go.Proofs.Ytecojmpiaaehlaa
