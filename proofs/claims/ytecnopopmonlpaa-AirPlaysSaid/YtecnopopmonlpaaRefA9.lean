/-
  Layer 9: the document's New, Find, Land, and the law's same: contracts.
-/
import Derived.Test.YtecnopopmonlpaaAirL
import Derived.Test.YtecnopopmonlpaaSame
namespace Go.Proofs.Ytecnopopmonlpaa
open Go.RowKit
set_option linter.unusedVariables false

abbrev RefAirAt (w : World) (base : B9) (b : Nat) (s : Ar) : Prop := ArAt w base b 53 50 s
abbrev refTs : List TypeId := [53, 50]

theorem infoRF : (Try.prog.info? 50).map (fun i => (i.zero, i.size, i.bytes)) = some (some (.agg #[.int .u64 0, .int .i64 0, .slice none 0 0]), 3, 40) := by kernel_rfl

theorem own_grown9 {w w' : World} {base : Nat} {e : TypeId} {size : Nat} {v : Value} {n : Nat} {xs : List Value} (h : w.ownsRow base e size v n xs) (hg : w.grownBy w' v.ownBlock) (hb : base ≤ w.heap.size) : KT [e] base w w' := by
  refine KT.of_keeps (Keeps.of_grown hg) (fun k _ hk => ?_) hb
  obtain ⟨cur, hc⟩ := owns_ty h k hk
  exact ⟨(World.ownsRow.lt h k hk).1, _, _, _, hc, by simp⟩

set_option maxHeartbeats 1000000 in
theorem refanew_yes (n : Nat) (w : World) (base : B9) (hb : base.n ≤ w.heap.size) (h1 : 1 ≤ n) (h2 : n ≤ 2048) :
    Calls Try.prog 9 #[.int .i64 (n : Int)] w fun e w' => e = .returned (.tuple #[.pointer (some ⟨w.heap.size, 0, none⟩), .int .i64 0]) ∧ RefAirAt w' base w.heap.size ⟨n, 0, []⟩ ∧ Below w.heap.size w w' := by
  have d1 : ¬ (n : Int) < 1 := by omega
  have d2 : ¬ 2048 < (n : Int) := by omega
  go_enter Try.func9, Try.ntmps9
  go_wp2
  go_ret2
  exact ⟨rfl, ⟨_, _, arv_new w base n _ _ h2 hb⟩, (Below.refl _ _).alloc (Nat.le_refl _) _⟩

set_option maxHeartbeats 1000000 in
theorem refanew_no (n : Int) (w : World) (h : n < 1 ∨ 2048 < n) :
    Calls Try.prog 9 #[.int .i64 n] w fun e w' => e = .returned (.tuple #[.pointer none, .int .i64 1]) ∧ w = w' := by
  by_cases h1 : n < 1
  · go_enter Try.func9, Try.ntmps9
    go_wp2
    go_ret2
    exact ⟨rfl, rfl⟩
  · have h2 : 2048 < n := by omega
    go_enter Try.func9, Try.ntmps9
    go_wp2
    go_ret2
    exact ⟨rfl, rfl⟩

theorem reffind_nil (id : Nat) (w : World) :
    Calls Try.prog 17 #[.pointer none, .int .u64 (id : Int)] w fun e w' => e = .returned (.int .i64 (-1)) ∧ w = w' := by
  go_enter Try.func17, Try.ntmps17
  go_wp2_with fail
  go_ret
  exact ⟨rfl, rfl⟩

/-- Where the one of number id stands; -1: nowhere. -/
def RefFound (l : List Fl) (id : Nat) (r : Int) : Prop := (∃ (i : Nat) (x : Fl), r = (i : Int) ∧ l[i]? = some x ∧ x.id = id) ∨ (r = -1 ∧ ∀ x ∈ l, x.id ≠ id)

def RefFindPost (l : List Fl) (id : Nat) (w : World) (e : Ending) (w' : World) : Prop := ∃ r, e = .returned (.int .i64 r) ∧ RefFound l id r ∧ Below w.heap.size w w'

set_option maxHeartbeats 2000000 in
theorem reffind_any (base : B9) (b id : Nat) (s : Ar) (w : World) (h : RefAirAt w base b s) :
    Calls Try.prog 17 #[.pointer (some ⟨b, 0, none⟩), .int .u64 (id : Int)] w fun e w' => RefFindPost s.l id w e w' := by
  obtain ⟨fv, PF, hh⟩ := h
  obtain ⟨c0, c1, c2, hfz⟩ := hh.cells
  obtain ⟨a, c, rfl, hc1, hc2⟩ := hh.shape
  have hn : s.l.length ≤ 2048 := by obtain ⟨_, _, h3, h4, _⟩ := hh.ok; omega
  have H := hid hh
  clear hh hfz
  go_enter Try.func17, Try.ntmps17
  go_wp2_with fail
  go_loopw [14] (fun i wr => ∃ j : Nat, i = .int .i64 j ∧ j ≤ s.l.length ∧ Below w.heap.size w wr ∧ (∀ t x, t < j → s.l[t]? = some x → x.id ≠ id)) (fun i _ => s.l.length - (intOf i).toNat)
  case atStart => exact ⟨0, rfl, Nat.zero_le _, Below.refl _ _, (fun t x ht => absurd ht (Nat.not_lt_zero _))⟩
  case round =>
    obtain ⟨j, rfl, hj, hbr, i1⟩ := hrel
    have HB := hid hbr
    have I1 := hid i1
    have H2 := hid (H.out.below hbr)
    have hsz := hbr.size
    clear hbr i1
    by_cases hlt : j < s.l.length
    · obtain ⟨y, hy⟩ : ∃ y, PF[j]? = some y := ⟨_, List.getElem?_eq_getElem (by rw [H2.out.len]; omega)⟩
      have hx : s.l[j]? = some y.1 := by rw [H2.out.list, List.getElem?_map, hy]; rfl
      have HX := hid hx
      rcases owns_shape H2.out.row with ⟨e0, e1⟩ | ⟨g, cap, ev, hg1, hg2, _, _⟩
      · rw [H2.out.len] at e1; omega
      · rw [H2.out.len] at ev
        simp only [Value.slice.injEq] at ev
        obtain ⟨ev1, _, ev3⟩ := ev
        subst ev1 ev3
        obtain ⟨f0, f1, f2⟩ := H2.out.fcell hy
        have hyo := H2.out.own y (List.mem_of_getElem? hy)
        obtain ⟨va, vc, ev⟩ := rd_sl hyo.rd
        rw [ev] at f2
        have hmn : (j : Int) < (s.l.length : Int) := by omega
        have hbo : Below wr.heap.size wr (wr.alloc (.cells #[.int .u64 (y.1.id : Int), .int .i64 y.1.to, .slice va y.1.t.length vc] 50)) := (Below.refl _ _).alloc (Nat.le_refl _) _
        have HBO := hid hbo
        clear hx hy hyo ev hbo
        by_cases hc : y.1.id = id
        · have hcb : ((y.1.id : Int) == (id : Int)) = true := by rw [beq_iff_eq]; omega
          have HC := hid hc
          clear hc
          go_wp2_with fail
          go_ret
          exact ⟨(j : Int), rfl, .inl ⟨j, y.1, rfl, HX.out, HC.out⟩, HB.out.trans (HBO.out.mono hsz)⟩
        · have hcb : ((y.1.id : Int) == (id : Int)) = false := by rw [beq_eq_false_iff_ne]; omega
          have HC := hid hc
          clear hc
          go_wp2_with fail
          go_roundw
          case rel => exact ⟨j + 1, by go_num, hlt, HB.out.trans (HBO.out.mono hsz), (fun t x ht hx => by
            rcases Nat.eq_or_lt_of_le (Nat.le_of_lt_succ ht) with h | h
            · subst h; rw [HX.out] at hx; cases hx; exact HC.out
            · exact I1.out t x h hx)⟩
          case measure => simp [intOf]; omega
    · have hjn : ¬ (j : Int) < (s.l.length : Int) := by omega
      go_wp2_with fail
      go_ret
      exact ⟨-1, rfl, .inr ⟨rfl, fun x hx => by
        obtain ⟨i, hi, ex⟩ := List.getElem_of_mem hx
        exact I1.out i x (by omega) (by rw [List.getElem?_eq_getElem hi, ex])⟩, HB.out⟩

theorem RefFound.yes {l : List Fl} {i : Nat} {r : Int} {x : Fl} (h : RefFound l x.id r) (hs : (l.map (·.id)).Pairwise (· < ·)) (hx : l[i]? = some x) : r = (i : Int) := by
  rcases h with ⟨j, y, rfl, hy, e⟩ | ⟨_, h⟩
  · rcases Nat.lt_trichotomy j i with h | h | h
    · have := sorted_get hs hy hx h; omega
    · rw [h]
    · have := sorted_get hs hx hy h; omega
  · exact absurd rfl (h x (List.mem_of_getElem? hx))

theorem RefFound.no {l : List Fl} {id : Nat} {r : Int} (h : RefFound l id r) (hx : ∀ x ∈ l, x.id ≠ id) : r = -1 := by
  rcases h with ⟨j, y, rfl, hy, e⟩ | ⟨h, _⟩
  · exact absurd e (hx y (List.mem_of_getElem? hy))
  · exact h

set_option maxHeartbeats 2000000 in
theorem same9_any (t1 t2 : Int) (v1 v2 : Value) (l m : List UInt8) (w : World) (hu : Rd w v1 l) (hv : Rd w v2 m) (ht : t1 = t2) (hl : l = m) :
    Calls Try.prog 15 #[.agg #[.int .i64 t1, v1], .agg #[.int .i64 t2, v2]] w fun e w' => e = .returned (.bool true) ∧ Below w.heap.size w w' := by
  subst ht hl
  obtain ⟨a1, c1, rfl⟩ := rd_sl hu
  obtain ⟨a2, c2, rfl⟩ := rd_sl hv
  obtain ⟨w1, hw1⟩ : ∃ w1, w1 = (w.alloc (.cells #[.int .i64 t1, .slice a1 l.length c1] 34)).alloc (.cells #[.int .i64 t1, .slice a2 l.length c2] 34) := ⟨_, rfl⟩
  have hb : Below w.heap.size w w1 := by rw [hw1]; exact ((Below.refl _ _).alloc (Nat.le_refl _) _).alloc (by simp) _
  have HU := hid (hu.below hb)
  have HV := hid (hv.below hb)
  have HB := hid hb
  clear hu hv hb
  go_enter Try.func15, Try.ntmps15
  go_wp2_with fail
  rw [← hw1]
  clear hw1
  refine (same_any _ _ l l w1 HU.out HV.out).mono ?_
  rintro e w' ⟨rfl, rfl⟩
  rw [show (l == l) = true by simp]
  go_wp2_with fail
  go_ret
  exact ⟨rfl, HB.out⟩

end Go.Proofs.Ytecnopopmonlpaa
