/-
  A profile as it came in; the document's Few, free.
-/
import Derived.Test.YtecojmpiaaehlaaPlS
import Derived.Deep.Matrix
namespace Go.Proofs.Ytecojmpiaaehlaa
open Go.RowKit Go.Shelf
set_option linter.unusedVariables false

/-- What the walk is told of a slice of slices of numbers that came in. -/
def IsMatI (w : World) (a : Option Addr) (len cap : Nat) : Prop :=
  (a = none ∧ len = 0 ∧ cap = 0) ∨
  ∃ x, a = some x ∧ len ≤ cap ∧ cap ≤ maxLen ∧ ∀ r, r < len → ∃ (A : Option Addr) (L C : Nat) (zs : List Int), w.cell? (x.add r) = some (.slice A L C) ∧ IsRow .i64 w A L C zs

theorem isMatI_of {H : Type} {enc : TypeId × Value → H} {w : World} {base : Nat} {held : Bool} {a : Option Addr} {len cap : Nat} {d : DataW H} {p : List MemPlace}
    (h : DataW.Trod enc Try.prog w base (fun _ => true) held 22 (.slice a len cap) d p) : IsMatI w a len cap := by
  obtain ⟨fuel, hf⟩ := h
  rcases Deep.open_int_rows Try.underlying22 Try.underlying25 Try.underlying3 (by kernel_rfl) (by kernel_rfl) hf with ⟨hcs, _⟩ | ⟨x, l, c, A, L, C, Z, hcs, _, hl, hm, _, hr⟩
  · simp [Value.cells] at hcs
    obtain ⟨rfl, rfl, rfl⟩ := hcs
    exact .inl ⟨rfl, rfl, rfl⟩
  · simp [Value.cells] at hcs
    obtain ⟨rfl, rfl, rfl⟩ := hcs
    refine .inr ⟨x, rfl, hl, hm, fun r hrl => ?_⟩
    obtain ⟨c1, c2, c3, c4, c5, c6, c7⟩ := hr r (by omega)
    refine ⟨A r, L r, C r, Z r, c1, ?_⟩
    cases hA : A r with
    | none =>
      have hC := c6 hA
      exact .inl ⟨rfl, by omega, hC, List.eq_nil_of_length_eq_zero (by omega)⟩
    | some y => exact .inr ⟨y, rfl, c2, c3, c4, fun i hi => (c7 y hA).2 i (by omega), c5⟩

/-- The first k numbers of a slice that came in. -/
theorem IsRow.srcI {w : World} {a : Option Addr} {len cap : Nat} {zs : List Int} (h : IsRow .i64 w a len cap zs) (k : Nat) (hk : k ≤ len) : (zs.take k).length = k ∧ (∀ j x, (zs.take k)[j]? = some x → ∃ b off, a = some ⟨b, off, none⟩ ∧ b < w.heap.size ∧ w.cell? ⟨b, off + j, none⟩ = some (iw x)) := by
  rcases h with ⟨rfl, rfl, rfl, rfl⟩ | ⟨x, rfl, h1, h2, h3, h4, h5⟩
  · obtain rfl : k = 0 := by omega
    exact ⟨rfl, fun j x hj => by simp at hj⟩
  · have hl : (zs.take k).length = k := by rw [List.length_take]; omega
    refine ⟨hl, fun j y hj => ?_⟩
    have hjk : j < k := by have := (List.getElem?_eq_some_iff.1 hj).1; omega
    obtain ⟨b, off, spot⟩ := x
    have hc00 := h4 0 (by omega)
    have hs : spot = none := by simpa [Addr.add] using World.cell?_spot hc00
    subst hs
    have hb : b < w.heap.size := by
      have := World.block_lt_of_cell? _ _ hc00
      simpa [Addr.add] using this
    have hc0 := h4 j (by omega)
    refine ⟨b, off, rfl, hb, ?_⟩
    rw [Addr.add_lit] at hc0
    rw [hc0]
    rw [List.getElem?_take, if_pos hjk, List.getElem?_eq_getElem (by omega)] at hj
    cases hj
    simp [iw, List.getElem?_eq_getElem (show j < zs.length by omega)]

/-- A slice of slices that came in: its rows, each cut to its first 20 numbers. -/
def RawP (w : World) (a : Option Addr) (len cap : Nat) (ts : List (List Int)) : Prop :=
  ts.length = len ∧ len ≤ cap ∧ cap ≤ 9223372036854775807 ∧ ∀ (r : Nat) (t : List Int), ts[r]? = some t → ∃ b off A L C, a = some ⟨b, off, none⟩ ∧ b < w.heap.size ∧ w.cell? ⟨b, off + r, none⟩ = some (.slice A L C) ∧ L ≤ C ∧ C ≤ 9223372036854775807 ∧ t.length = min L 20 ∧ (A = none → C = 0) ∧ RdW w (.slice A t.length C) (t.map iw)
theorem RawP.all {w w' : World} {a : Option Addr} {len cap : Nat} {ts : List (List Int)} (h : RawP w a len cap ts) (hb : Below w.heap.size w w') : RawP w' a len cap ts := by
  obtain ⟨h1, h2, h3, h4⟩ := h
  refine ⟨h1, h2, h3, fun r t hr => ?_⟩
  obtain ⟨b, off, A, L, C, g1, g2, g3, g4, g5, g6, g8, g7⟩ := h4 r t hr
  exact ⟨b, off, A, L, C, g1, by have := hb.size; omega, (hb.cell (p := ⟨b, off + r, none⟩) g2).trans g3, g4, g5, g6, g8, g7.all hb⟩
theorem IsMatI.raw {w : World} {a : Option Addr} {len cap : Nat} (h : IsMatI w a len cap) : ∃ ts, RawP w a len cap ts := by
  rcases h with ⟨rfl, rfl, rfl⟩ | ⟨x, rfl, h1, h2, hr⟩
  · exact ⟨[], rfl, Nat.le_refl _, by omega, fun r t hr => by simp at hr⟩
  · unfold maxLen at h2
    have go : ∀ k, k ≤ len → ∃ ts : List (List Int), ts.length = k ∧ ∀ (r : Nat) (t : List Int), ts[r]? = some t → ∃ b off A L C, some x = some (⟨b, off, none⟩ : Addr) ∧ b < w.heap.size ∧ w.cell? ⟨b, off + r, none⟩ = some (.slice A L C) ∧ L ≤ C ∧ C ≤ 9223372036854775807 ∧ t.length = min L 20 ∧ (A = none → C = 0) ∧ RdW w (.slice A t.length C) (t.map iw) := by
      intro k hk
      induction k with
      | zero => exact ⟨[], rfl, fun r t hr => by simp at hr⟩
      | succ k ih =>
        obtain ⟨ts, hl, ht⟩ := ih (by omega)
        obtain ⟨A, L, C, zs, hc, hrow⟩ := hr k (by omega)
        obtain ⟨hsl, hsc⟩ := hrow.srcI (min L 20) (by omega)
        have hbd := hrow.bounds
        refine ⟨ts ++ [zs.take (min L 20)], by simp [hl], fun r t hr' => ?_⟩
        by_cases e : r < k
        · rw [List.getElem?_append_left (by omega)] at hr'
          exact ht r t hr'
        · have hlt := (List.getElem?_eq_some_iff.1 hr').1
          simp only [List.length_append, List.length_cons, List.length_nil, hl] at hlt
          obtain rfl : r = k := by omega
          rw [List.getElem?_append_right (by omega)] at hr'
          simp only [hl, Nat.sub_self, List.getElem?_cons_zero, Option.some.injEq] at hr'
          subst hr'
          obtain ⟨b, off, spot⟩ := x
          obtain ⟨A0, L0, C0, z0, hc00, _⟩ := hr 0 (by omega)
          have hs : spot = none := by simpa [Addr.add] using World.cell?_spot hc00
          subst hs
          have hb : b < w.heap.size := by
            have := World.block_lt_of_cell? _ _ hc00
            simpa [Addr.add] using this
          rw [Addr.add_lit] at hc
          refine ⟨b, off, A, L, C, rfl, hb, hc, hbd.1, hbd.2.1, hsl, fun e => (hbd.2.2 e).2, ?_⟩
          refine ⟨A, C, by rw [List.length_map], by rw [List.length_map, hsl]; omega, hbd.2.1, fun j y hj => ?_⟩
          rw [List.getElem?_map] at hj
          cases hz : (zs.take (min L 20))[j]? with
          | none => rw [hz] at hj; cases hj
          | some z => rw [hz] at hj; cases hj; exact hsc j z hz
    obtain ⟨ts, hl, ht⟩ := go len (Nat.le_refl _)
    exact ⟨ts, hl, h1, by omega, ht⟩

theorem SrcC.of_rd {w : World} {a : Option Addr} {n cap : Nat} {xs : List Value} (h : RdW w (.slice a n cap) xs) (hn : n = xs.length) (h0 : a = none → cap = 0) : SrcC w (.slice a n cap) n xs := by
  cases a with
  | none =>
    have hx : xs = [] := by
      cases xs with
      | nil => rfl
      | cons x l => obtain ⟨b, off, e, _⟩ := h.at 0 x rfl; cases e
    subst hx
    subst hn
    rw [h0 rfl]
    exact .inl ⟨rfl, rfl, rfl⟩
  | some x =>
    refine .inr ⟨x, cap, rfl, fun j y hj => ?_⟩
    obtain ⟨b, off, e, _, h6⟩ := h.at j y hj
    cases e
    rw [Addr.add_lit]; exact h6

/-- The rows that were copied so far. -/
def FewIn (w : World) (base : Nat) (vals : List Value) (P : List (List Int)) : Prop := vals.length = P.length ∧ ∀ (j : Nat) (r : List Int), P[j]? = some r → ∃ u, vals[j]? = some u ∧ w.ownsRow base 3 1 u r.length (r.map iw)
theorem FewIn.kt {w w' : World} {base B : Nat} {vals : List Value} {P : List (List Int)} {ts : List TypeId} (h : FewIn w base vals P) (hk : KT ts B w w') (ht : 3 ∉ ts) : FewIn w' base vals P :=
  ⟨h.1, fun j r hj => by obtain ⟨u, h1, h2⟩ := h.2 j r hj; exact ⟨u, h1, owns_kt h2 hk ht⟩⟩
theorem FewIn.below {w w' : World} {base : Nat} {vals : List Value} {P : List (List Int)} (h : FewIn w base vals P) (hb : Below w.heap.size w w') : FewIn w' base vals P :=
  ⟨h.1, fun j r hj => by obtain ⟨u, h1, h2⟩ := h.2 j r hj; exact ⟨u, h1, owns_below h2 hb⟩⟩
theorem FewIn.snoc {w : World} {base : Nat} {vals : List Value} {P : List (List Int)} {u : Value} {r : List Int} (h : FewIn w base vals P) (hu : w.ownsRow base 3 1 u r.length (r.map iw)) : FewIn w base (vals ++ [u]) (P ++ [r]) := by
  refine ⟨by simp [h.1], fun j x hj => ?_⟩
  by_cases e : j < P.length
  · rw [List.getElem?_append_left e] at hj
    rw [List.getElem?_append_left (by rw [h.1]; exact e)]
    exact h.2 j x hj
  · have hlt := (List.getElem?_eq_some_iff.1 hj).1
    simp only [List.length_append, List.length_cons, List.length_nil] at hlt
    obtain rfl : j = P.length := by omega
    rw [List.getElem?_append_right (Nat.le_refl _), Nat.sub_self] at hj
    cases hj
    rw [List.getElem?_append_right (by rw [h.1]; exact Nat.le_refl _), h.1, Nat.sub_self]
    exact ⟨u, rfl, hu⟩
theorem FewIn.rdp {w : World} {base : Nat} {v : Value} {vals : List Value} {P : List (List Int)} (h : FewIn w base vals P) (hv : w.ownsRow base 25 1 v P.length vals) : RdP w v P := by
  rcases (RdV.of_own hv) with ⟨rfl, he⟩ | ⟨b, off, cap, rfl, h1, h2, h3, h4⟩
  · rw [he] at h
    exact .inl ⟨rfl, List.eq_nil_of_length_eq_zero h.1.symm⟩
  · rw [h.1] at h1 ⊢
    refine .inr ⟨b, off, cap, rfl, h1, h2, h3, fun i r hi => ?_⟩
    obtain ⟨u, g1, g2⟩ := h.2 i r hi
    obtain ⟨a, c, rfl, _, _⟩ := owns_slice g2
    exact ⟨a, c, h4 i _ g1, RdV.of_own g2⟩
theorem owns_keeps {w w' : World} {base size n : Nat} {e : TypeId} {v : Value} {xs : List Value} (h : w.ownsRow base e size v n xs) (hk : Keeps (fun q => q < base) w w') : w'.ownsRow base e size v n xs :=
  owns_by h fun c hc => hk.block c (World.ownsRow.lt h c hc).2 (by have := (World.ownsRow.lt h c hc).1; omega)
theorem FewIn.keeps {w w' : World} {base : Nat} {vals : List Value} {P : List (List Int)} (h : FewIn w base vals P) (hk : Keeps (fun q => q < base) w w') : FewIn w' base vals P :=
  ⟨h.1, fun j r hj => by obtain ⟨u, h1, h2⟩ := h.2 j r hj; exact ⟨u, h1, owns_keeps h2 hk⟩⟩
theorem iw_one (l : List Int) : ∀ y ∈ l.map iw, y.oneCell' = true := by
  intro y hy
  obtain ⟨_, _, rfl⟩ := List.mem_map.1 hy
  rfl
theorem take_snoc_p {l : List (List Int)} {k : Nat} {x : List Int} (h : l[k]? = some x) : l.take (k + 1) = l.take k ++ [x] := by
  rw [List.take_add_one, h]; rfl

set_option maxRecDepth 100000 in
set_option maxHeartbeats 4000000 in
theorem few_all (w : World) (a : Option Addr) (len cap : Nat) (ts : List (List Int)) (h : RawP w a len cap ts) :
    Calls Try.prog 13 #[.slice a len cap] w fun e w' => ∃ u, e = .returned u ∧ RdP w' u (ts.take 10) ∧ Below w.heap.size w w' ∧ ∀ w2, Keeps (fun q => q < w.heap.size) w' w2 → RdP w2 u (ts.take 10) := by
  have HH := hid h
  obtain ⟨htl, hlc, hcm, -⟩ := h
  go_enter Try.func13, Try.ntmps13
  go_wp2_with fail
  go_loopw [3, 8] (fun v i wr => ∃ (k : Nat) (vals : List Value), k ≤ len ∧ i = .int .i64 k ∧ wr.ownsRow w.heap.size 25 1 v ((ts.take 10).take k).length vals ∧ FewIn wr w.heap.size vals ((ts.take 10).take k) ∧ Below w.heap.size w wr) (fun _ i _ => len - (intOf i).toNat)
  case atStart => exact ⟨0, [], Nat.zero_le _, rfl, World.ownsRow_nil _ _ _ _, ⟨rfl, fun j r hj => by simp at hj⟩, Below.refl _ _⟩
  case round =>
    obtain ⟨k, vals, hk, rfl, hv, hF, hB⟩ := hrel
    have HV := hid hv
    have HF := hid hF
    have HB := hid hB
    have hsw := hB.size
    obtain ⟨av, cv, rfl, hcv1, hcv2⟩ := owns_slice hv
    have hol : ((ts.take 10).take k).length ≤ 10 := by rw [List.length_take, List.length_take]; omega
    clear hv hF
    generalize hvl : ((ts.take 10).take k).length = vl at *
    have HVL := hid hvl
    clear hvl
    by_cases hlt : k < len
    · obtain ⟨t, ht⟩ : ∃ t, ts[k]? = some t := ⟨_, List.getElem?_eq_getElem (by omega)⟩
      obtain ⟨b, off, A, L, C, rfl, hbl, hcell, hLC, hCm, htlen, hA0, hrw⟩ := (HH.out.all hB).2.2.2 k t ht
      have hki : (k : Int) < (len : Int) := by omega
      have HT := hid ht
      have HRW := hid hrw
      clear ht hrw hB
      by_cases hk10 : k < 10
      · have c1 : decide ((k : Int) < 10) = true := decide_eq_true (by omega)
        have c2 : decide (k < 10) = true := decide_eq_true hk10
        have ht10 : (ts.take 10)[k]? = some t := by rw [List.getElem?_take, if_pos hk10]; exact HT.out
        have HTS := hid (take_snoc_p ht10)
        have hmn : (if (20 : Int) < (L : Int) then (20 : Int) else (L : Int)) = (t.length : Int) := by split <;> omega
        have hmn2 : min (L : Int) 20 = (t.length : Int) := by omega
        have hn20 : t.length ≤ 20 := by omega
        have hnL : t.length ≤ L := by omega
        have hm0 : (wr.alloc (.cells #[] 3)).ownsRow wr.heap.size 3 1 (.slice (some ⟨wr.heap.size, 0, none⟩) 0 0) 0 [] := World.ownsRow_made wr (e := 3) (size := 1) #[] 0 (base := wr.heap.size) (Nat.le_refl _) (Nat.zero_le _) rfl
        have HM0 := hid hm0
        have hbA : Below wr.heap.size wr (wr.alloc (.cells #[] 3)) := (Below.refl _ wr).alloc (Nat.le_refl _) _
        have HBA := hid hbA
        have HSA := hid (SrcC.of_rd (HRW.out.all hbA) (by rw [List.length_map]) hA0)
        have hrl : (t.map iw).length = t.length * 1 := by simp
        have HRL := hid hrl
        clear hm0 hbA ht10 hk10 hrl hA0
        generalize htl' : t.length = tl at *
        have HTL := hid htl'
        clear htl' htlen
        go_wp2_with (first
          | (at_builtin; (refine appsw (by rfl) 25 3 (.tmp 16) (.tmp 21) rfl wr.heap.size 1 8 _ Try.underlying25 Try.infoInt rfl (by decide) _ _ 0 tl tl _ _ rfl rfl HM0.out HSA.out HRL.out (iw_one t) (by omega) (by omega) (by omega) (by simp) ?_); intro ad5 cp5 w5 ho5 hg5; rw [List.nil_append] at ho5; have hb5 : Below wr.heap.size wr w5 := HBA.out.grown hg5 (by simp) (fun g hg => (World.ownsRow.lt HM0.out g hg).1); have hb6 := hb5.alloc hb5.size (.cells #[.slice ad5 tl cp5] 25); have HS6 := hid (SrcC.lit w5 #[.slice ad5 tl cp5] 25 1 [.slice ad5 tl cp5] rfl); have HO5 := hid ho5; have HV6 := hid (owns_below HV.out hb6); have HB6 := hid hb6; have hs6 := hb6.size; clear ho5 hg5 hb5 hb6)
          | (at_builtin; (refine appsw (by rfl) 22 25 (.tmp 15) (.tmp 23) rfl w.heap.size 1 24 _ Try.underlying22 infoRows rfl (by decide) _ _ vl 1 (vl + 1) _ _ rfl rfl HV6.out HS6.out rfl (by intro y hy; rw [List.mem_singleton] at hy; subst hy; rfl) rfl (by omega) (by omega) (by omega) ?_); intro ad9 cp9 w9 ho9 hg9; have HO9 := hid ho9; have HG9 := hid hg9; clear ho9 hg9)
          | fail)
        have kt9 : KT [25] w.heap.size (w5.alloc (.cells #[.slice ad5 tl cp5] 25)) w9 := KT.of_keeps (Keeps.of_grown HG9.out) (fun q _ e => by
          obtain ⟨cur, hc⟩ := owns_ty HV6.out q e
          exact ⟨(World.ownsRow.lt HV6.out q e).1, _, _, _, hc, by simp⟩) (by omega)
        have hf9 : FewIn w9 w.heap.size (vals ++ [.slice ad5 tl cp5]) ((ts.take 10).take k ++ [t]) := by
          refine ((HF.out.below HB6.out).snoc ?_).kt kt9 (by decide)
          have := owns_below HO5.out ((Below.refl _ w5).alloc (Nat.le_refl _) (.cells #[.slice ad5 tl cp5] 25))
          rw [HTL.out]; exact owns_base this hsw
        have HF9 := hid hf9
        have HB9 := hid ((HB.out.trans (HB6.out.mono hsw)).trans kt9.below)
        clear kt9 hf9
        go_wp2
        go_roundw
        case rel => exact ⟨k + 1, _, hlt, by go_num, by rw [HTS.out, List.length_append, HVL.out]; exact HO9.out, by rw [HTS.out]; exact HF9.out, HB9.out⟩
        case measure => simp [intOf]; omega
      · have c1 : decide ((k : Int) < 10) = false := decide_eq_false (by omega)
        have c2 : decide (k < 10) = false := decide_eq_false hk10
        have HTS := hid (show (ts.take 10).take (k + 1) = (ts.take 10).take k by rw [List.take_take, List.take_take]; congr 1; omega)
        clear hk10
        go_wp2
        go_roundw
        case rel => exact ⟨k + 1, vals, hlt, by go_num, by rw [HTS.out, HVL.out]; exact HV.out, by rw [HTS.out]; exact HF.out, HB.out⟩
        case measure => simp [intOf]; omega
    · have e : k = len := by omega
      have hki : ¬ (k : Int) < (len : Int) := by omega
      have HE := hid (show (ts.take 10).take k = ts.take 10 by rw [List.take_take]; rw [e, ← htl]; exact (by rw [Nat.min_comm, ← List.take_take, List.take_length]))
      have HQK := hid (show ∀ w2, Keeps (fun q => q < w.heap.size) wr w2 → RdP w2 (.slice av vl cv) (ts.take 10) by
        intro w2 hw2
        have h1 := HF.out
        rw [HE.out] at h1
        refine (h1.keeps hw2).rdp ?_
        have h2 := HVL.out
        rw [HE.out] at h2
        rw [h2]
        exact owns_keeps HV.out hw2)
      have HQ := hid (HQK.out wr (Keeps.refl _ _))
      clear hlt e hB
      go_wp2
      go_ret
      exact ⟨_, rfl, HQ.out, HB.out, HQK.out⟩
theorem few_any (w : World) (a : Option Addr) (len cap : Nat) (ts : List (List Int)) (h : RawP w a len cap ts) :
    Calls Try.prog 13 #[.slice a len cap] w fun e w' => ∃ u, e = .returned u ∧ RdP w' u (ts.take 10) ∧ Below w.heap.size w w' :=
  (few_all w a len cap ts h).mono fun _ _ ⟨u, h1, h2, h3, _⟩ => ⟨u, h1, h2, h3⟩

end Go.Proofs.Ytecojmpiaaehlaa
