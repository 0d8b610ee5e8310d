/-
  Layer 9: find: contracts.
-/
import Derived.Test.YtecnopopmonlpaaAirO
namespace Go.Proofs.Ytecnopopmonlpaa
open Go.RowKit
set_option linter.unusedVariables false

/-- Where the one of number id stands. -/
def Found (l : List Fl) (id r : Nat) (f : Bool) : Prop := r ≤ l.length ∧ (f = true → ∃ x, l[r]? = some x ∧ x.id = id) ∧ (f = false → ∀ x ∈ l, x.id ≠ id)

def FindPost (l : List Fl) (id : Nat) (w : World) (e : Ending) (w' : World) : Prop := ∃ r f, e = .returned (.tuple #[.int .i64 ((r : Nat) : Int), .bool f]) ∧ Found l id r f ∧ Below w.heap.size w w'

theorem sorted_get {l : List Fl} (h : (l.map (·.id)).Pairwise (· < ·)) {i j : Nat} {x y : Fl} (hi : l[i]? = some x) (hj : l[j]? = some y) (hij : i < j) : x.id < y.id := by
  obtain ⟨h1, e1⟩ := List.getElem?_eq_some_iff.1 hi
  obtain ⟨h2, e2⟩ := List.getElem?_eq_some_iff.1 hj
  have := List.pairwise_iff_getElem.1 h i j (by simpa using h1) (by simpa using h2) hij
  simpa [e1, e2] using this

theorem found_no {l : List Fl} {id lo : Nat} (hlo : lo ≤ l.length) (h1 : ∀ t x, t < lo → l[t]? = some x → x.id < id) (h2 : ∀ t x, lo ≤ t → l[t]? = some x → id ≤ x.id) (hs : (l.map (·.id)).Pairwise (· < ·)) (hne : ∀ x, l[lo]? = some x → x.id ≠ id) : Found l id lo false := by
  refine ⟨hlo, (fun h => by cases h), fun _ x hx e => ?_⟩
  obtain ⟨i, hi, ex⟩ := List.getElem_of_mem hx
  have hix : l[i]? = some x := by rw [List.getElem?_eq_getElem hi, ex]
  rcases Nat.lt_or_ge i lo with h | h
  · have := h1 i x h hix; omega
  · rcases Nat.eq_or_lt_of_le h with h' | h'
    · subst h'; exact hne x hix e
    · have hlt : lo < l.length := by omega
      have := sorted_get hs (List.getElem?_eq_getElem hlt) hix h'
      have := h2 lo _ (Nat.le_refl _) (List.getElem?_eq_getElem hlt)
      omega

set_option maxHeartbeats 2000000 in
theorem bsearch_any (base : B9) (b id : Nat) (s : Ar) (fv : Value) (PF : List (Fl × Value)) (w : World) (hh : AirV w base b s fv PF) :
    Calls Try.prog 29 #[fv, .int .u64 (id : Int), .func (.func 30) #[] #[]] w fun e w' => FindPost s.l id w e w' := by
  have H := hid hh
  obtain ⟨a, c, rfl, hc1, hc2⟩ := hh.shape
  have hn : s.l.length ≤ 2048 := by have := hh.ok; obtain ⟨_, _, h3, h4, _⟩ := this; omega
  have HSO := hid hh.ok.1
  clear hh
  go_enter Try.func29, Try.ntmps29
  go_wp2
  go_loopw [9, 10] (fun s9 s10 wr => ∃ lo hi : Nat, s9 = .int .i64 lo ∧ s10 = .int .i64 hi ∧ lo ≤ hi ∧ hi ≤ s.l.length ∧ Below w.heap.size w wr ∧ (∀ t x, t < lo → s.l[t]? = some x → x.id < id) ∧ (∀ t x, hi ≤ t → s.l[t]? = some x → id ≤ x.id)) (fun s9 s10 _ => (intOf s10 - intOf s9).toNat)
  case atStart => exact ⟨0, s.l.length, rfl, rfl, Nat.zero_le _, Nat.le_refl _, Below.refl _ _, (fun t x ht => absurd ht (Nat.not_lt_zero _)), fun t x ht hx => by rw [List.getElem?_eq_none (by omega)] at hx; cases hx⟩
  case round =>
    obtain ⟨lo, hi, rfl, rfl, hlh, hin, hbr, i1, i2⟩ := hrel
    have HB := hid hbr
    have I1 := hid i1
    have I2 := hid i2
    have H2 := hid (H.out.below hbr)
    have hsz := hbr.size
    clear hbr i1 i2
    by_cases hlt : lo < hi
    · obtain ⟨m, hm⟩ : ∃ m, m = (lo + hi) / 2 := ⟨_, rfl⟩
      have hm1 : lo ≤ m := by omega
      have hm2 : m < hi := by omega
      have hmd : ((lo : Int) + (hi : Int)) / 2 = (m : Int) := by omega
      obtain ⟨y, hy⟩ : ∃ y, PF[m]? = some y := ⟨_, List.getElem?_eq_getElem (by rw [H2.out.len]; omega)⟩
      have hx : s.l[m]? = some y.1 := by rw [H2.out.list, List.getElem?_map, hy]; rfl
      have HX := hid hx
      rcases owns_shape H2.out.row with ⟨e0, e1⟩ | ⟨g, cap, ev, hg1, hg2, _, _⟩
      · rw [H2.out.len] at e1; omega
      · rw [H2.out.len] at ev
        simp only [Value.slice.injEq] at ev
        obtain ⟨ev1, _, ev3⟩ := ev
        subst ev1 ev3
        obtain ⟨f0, f1, f2⟩ := H2.out.fcell hy
        have hmn : (m : Int) < (s.l.length : Int) := by omega
        clear hx hy hm
        by_cases hc : y.1.id < id
        · have HCM := hid (show cmpI y.1.id id = -1 by unfold cmpI; rw [if_pos hc])
          have HC := hid hc
          clear hc
          go_wp2_with fail
          refine (cmpid_any y.1.id id y.1.to y.2 wr).mono ?_
          rintro e w5 ⟨rfl, hb5⟩
          rw [HCM.out]
          have HB5 := hid hb5
          clear hb5
          go_wp2_with fail
          go_roundw
          case rel => exact ⟨m + 1, hi, by go_num, rfl, by omega, hin, HB.out.trans (HB5.out.mono hsz), (fun t x ht hx => by
            rcases Nat.eq_or_lt_of_le (Nat.le_of_lt_succ ht) with h | h
            · subst h; rw [HX.out] at hx; cases hx; exact HC.out
            · have := sorted_get HSO.out hx HX.out h; have := HC.out; omega), I2.out⟩
          case measure => simp [intOf]; omega
        · have hcm : ¬ cmpI y.1.id id < 0 := by
            unfold cmpI
            rw [if_neg hc]
            split <;> omega
          obtain ⟨cz, hcz⟩ : ∃ cz, cz = cmpI y.1.id id := ⟨_, rfl⟩
          rw [← hcz] at hcm
          have HCZ := hid hcz
          have HC := hid hc
          clear hc hcz
          go_wp2_with fail
          refine (cmpid_any y.1.id id y.1.to y.2 wr).mono ?_
          rintro e w5 ⟨rfl, hb5⟩
          rw [← HCZ.out]
          have HB5 := hid hb5
          clear hb5
          go_wp2_with fail
          go_roundw
          case rel => exact ⟨lo, m, rfl, rfl, by omega, by omega, HB.out.trans (HB5.out.mono hsz), I1.out, (fun t x ht hx => by
            rcases Nat.eq_or_lt_of_le ht with h | h
            · subst h; rw [HX.out] at hx; cases hx; have := HC.out; omega
            · have := sorted_get HSO.out HX.out hx h; have := HC.out; omega)⟩
          case measure => simp [intOf]; omega
    · obtain rfl : hi = lo := by omega
      by_cases hln : hi < s.l.length
      · obtain ⟨y, hy⟩ : ∃ y, PF[hi]? = some y := ⟨_, List.getElem?_eq_getElem (by rw [H2.out.len]; omega)⟩
        have hx : s.l[hi]? = some y.1 := by rw [H2.out.list, List.getElem?_map, hy]; rfl
        have HX := hid hx
        rcases owns_shape H2.out.row with ⟨e0, e1⟩ | ⟨g, cap, ev, hg1, hg2, _, _⟩
        · rw [H2.out.len] at e1; omega
        · rw [H2.out.len] at ev
          simp only [Value.slice.injEq] at ev
          obtain ⟨ev1, _, ev3⟩ := ev
          subst ev1 ev3
          obtain ⟨f0, f1, f2⟩ := H2.out.fcell hy
          have hmn : (hi : Int) < (s.l.length : Int) := by omega
          clear hx hy
          by_cases hc : y.1.id = id
          · have HCM := hid (show cmpI y.1.id id = 0 by unfold cmpI; rw [if_neg (by omega), if_neg (by omega)])
            have HC := hid hc
            clear hc
            go_wp2_with fail
            refine (cmpid_any y.1.id id y.1.to y.2 wr).mono ?_
            rintro e w5 ⟨rfl, hb5⟩
            rw [HCM.out]
            have HB5 := hid hb5
            clear hb5
            go_wp2_with fail
            go_ret2
            exact ⟨hi, true, rfl, ⟨hin, (fun _ => ⟨y.1, HX.out, HC.out⟩), (fun h => by cases h)⟩, HB.out.trans (HB5.out.mono hsz)⟩
          · have hcm : (cmpI y.1.id id == 0) = false := by
              rw [beq_eq_false_iff_ne]
              unfold cmpI
              split
              · omega
              · split <;> omega
            obtain ⟨cz, hcz⟩ : ∃ cz, cz = cmpI y.1.id id := ⟨_, rfl⟩
            rw [← hcz] at hcm
            have HCZ := hid hcz
            have HC := hid hc
            clear hc hcz
            go_wp2_with fail
            refine (cmpid_any y.1.id id y.1.to y.2 wr).mono ?_
            rintro e w5 ⟨rfl, hb5⟩
            rw [← HCZ.out]
            have HB5 := hid hb5
            clear hb5
            go_wp2_with fail
            go_ret2
            exact ⟨hi, false, rfl, found_no hin I1.out I2.out HSO.out (fun x hx => by rw [HX.out] at hx; cases hx; exact HC.out), HB.out.trans (HB5.out.mono hsz)⟩
      · have hnn : ¬ (hi : Int) < (s.l.length : Int) := by omega
        go_wp2_with fail
        go_ret2
        exact ⟨hi, false, rfl, found_no hin I1.out I2.out HSO.out (fun x hx => by rw [List.getElem?_eq_none (by omega)] at hx; cases hx), HB.out⟩

set_option maxHeartbeats 1000000 in
theorem find_any (base : B9) (b id : Nat) (s : Ar) (w : World) (h : AirAt w base b s) :
    Calls Try.prog 26 #[.pointer (some ⟨b, 0, none⟩), .int .u64 (id : Int)] w fun e w' => FindPost s.l id w e w' := by
  obtain ⟨fv, PF, hh⟩ := h
  obtain ⟨c0, c1, c2, hfz⟩ := hh.cells
  have H := hid hh
  clear hfz hh
  go_enter Try.func26, Try.ntmps26
  go_wp2_with fail
  refine (bsearch_any base b id s fv PF w H.out).mono ?_
  rintro e w5 ⟨r, f, rfl, hf, hb5⟩
  have HFO := hid hf
  have HB5 := hid hb5
  clear hf hb5
  go_wp2_with fail
  go_ret2
  exact ⟨r, f, rfl, HFO.out, HB5.out⟩

theorem find_nil (id : Nat) (w : World) :
    Calls Try.prog 26 #[.pointer none, .int .u64 (id : Int)] w fun e w' => e = .returned (.tuple #[.int .i64 0, .bool false]) ∧ w = w' := by
  go_enter Try.func26, Try.ntmps26
  go_wp2_with fail
  go_ret2
  exact ⟨rfl, rfl⟩

end Go.Proofs.Ytecnopopmonlpaa
