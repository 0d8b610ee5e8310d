/-
  Layer 10: the document's Tick: plain parts, and where nothing is told.
-/
import Derived.Test.YtjpojlkdogaalaaRtR
namespace Go.Proofs.Ytjpojlkdogaalaa
open Go.RowKit
set_option linter.unusedVariables false
set_option linter.unusedSimpArgs false

theorem Tk.tell_get (s : Tk) (i : Nat) (h : s.done + i ≤ s.all.length) (j : Nat) : (s.tell i).all[j]? = (s.all[j]?).map (fun x => if s.done ≤ j ∧ j < s.done + i then { x with told := s.clock } else x) := by
  unfold Tk.tell
  by_cases h1 : j < s.done
  · rw [List.append_assoc, List.getElem?_append_left (by simp; omega), List.getElem?_take, if_pos h1]
    cases s.all[j]? with
    | none => rfl
    | some x => simp only [Option.map_some]; rw [if_neg (by omega)]
  · rw [List.append_assoc, List.getElem?_append_right (by simp; omega)]
    simp only [List.length_take]
    rw [show j - min s.done s.all.length = j - s.done by omega]
    by_cases h2 : j < s.done + i
    · rw [List.getElem?_append_left (by simp; omega), List.getElem?_map, List.getElem?_take, if_pos (by omega), List.getElem?_drop, show s.done + (j - s.done) = j by omega]
      cases s.all[j]? with
      | none => rfl
      | some x => simp only [Option.map_some]; rw [if_pos ⟨by omega, h2⟩]
    · rw [List.getElem?_append_right (by simp; omega)]
      simp only [List.length_map, List.length_take, List.length_drop, List.getElem?_drop]
      rw [show s.done + i + (j - s.done - min i (s.all.length - s.done)) = j by omega]
      cases s.all[j]? with
      | none => rfl
      | some x => simp only [Option.map_some]; rw [if_neg (by omega)]

theorem Tk.tell_next (s : Tk) (i : Nat) (h : s.done + i < s.all.length) (x : Th) (hx : s.all[s.done + i]? = some x) : (s.tell (i + 1)).all = (s.tell i).all.set (s.done + i) ⟨x.t, s.clock⟩ := by
  apply List.ext_getElem?
  intro j
  rw [Tk.tell_get s (i + 1) (by omega) j, List.getElem?_set, Tk.tell_get s i (by omega) j]
  by_cases e : s.done + i = j
  · subst e
    rw [if_pos rfl, if_pos (by rw [Tk.tell_len s i (by omega)]; exact h), hx]
    simp only [Option.map_some]
    rw [if_pos ⟨by omega, by omega⟩]
  · rw [if_neg e]
    congr 1
    funext y
    by_cases h1 : s.done ≤ j ∧ j < s.done + i
    · rw [if_pos h1, if_pos ⟨h1.1, by omega⟩]
    · rw [if_neg h1, if_neg (by omega)]

theorem Tk.tell_at (s : Tk) (i : Nat) (h : s.done + i < s.all.length) (x : Th) (hx : s.all[s.done + i]? = some x) : (s.tell (i + 1)).all[s.done + i]? = some ⟨x.t, s.clock⟩ := by
  rw [Tk.tell_get s (i + 1) (by omega), hx]
  simp only [Option.map_some]
  rw [if_pos ⟨by omega, by omega⟩]

/-- One more is told. -/
theorem rtold_v {w : World} {base : B9} {b g c i p : Nat} {s : Tk} {sv : Value} {PF : List (Th × Value)} (h : RtV w base b (s.tell i) sv (.slice (some ⟨g, 0, none⟩) s.all.length c) PF) (hs : s.ok) (hi : s.done + i < s.all.length) (hp : p = s.done + i) :
    ∃ PF', RtV (w.setCell ⟨g, p, none⟩ (.int .i64 (s.clock : Int))) base b (s.tell (i + 1)) sv (.slice (some ⟨g, 0, none⟩) s.all.length c) PF' := by
  subst hp
  obtain ⟨x, hx⟩ : ∃ x, s.all[s.done + i]? = some x := ⟨_, List.getElem?_eq_getElem hi⟩
  have hPl : PF.length = s.all.length := by rw [h.len, Tk.tell_len s i (by omega)]
  obtain ⟨y, hy⟩ : ∃ y, PF[s.done + i]? = some y := ⟨_, List.getElem?_eq_getElem (by omega)⟩
  have hyt : y.1 = x := by
    have e := congrArg (fun l => l[s.done + i]?) h.list
    simp only [List.getElem?_map, hy, Option.map_some] at e
    rw [Tk.tell_get s i (by omega), hx] at e
    simp only [Option.map_some, Option.some.injEq] at e
    rw [if_neg (by omega)] at e
    exact e.symm
  have hmem : y ∈ PF := List.mem_of_getElem? hy
  have hk : Keeps (fun k => k = g) w (w.setCell ⟨g, s.done + i, none⟩ (.int .i64 (s.clock : Int))) := kset _ _ _ _
  obtain ⟨cg, hcg⟩ := owns_ty h.told g rfl
  have hrow := h.told
  rw [hPl] at hrow
  have ne : ∀ {e : TypeId} {k' : Nat} {v : Value} {n : Nat} {xs : List Value} {m : Nat}, w.ownsRow m e k' v n xs → e ≠ 3 → ∀ k, v.ownBlock = some k → (w.setCell ⟨g, s.done + i, none⟩ (.int .i64 (s.clock : Int))).heap[k]? = w.heap[k]? := fun ho he k hk' => by
    obtain ⟨cur, hc⟩ := owns_ty ho k hk'
    exact hk.block k (World.ownsRow.lt ho k hk').2 (ty_ne hc hcg he)
  have hset : ∀ z ∈ PF.set (s.done + i) (⟨y.1.t, s.clock⟩, y.2), z ∈ PF ∨ z = (⟨y.1.t, s.clock⟩, y.2) := fun z hz => List.mem_or_eq_of_mem_set hz
  have hown : ∀ z ∈ PF, Own (w.setCell ⟨g, s.done + i, none⟩ (.int .i64 (s.clock : Int))) base.n z.2 z.1.t := fun z hz => owns_by (h.own z hz) (ne (h.own z hz) (by decide))
  refine ⟨PF.set (s.done + i) (⟨y.1.t, s.clock⟩, y.2), (hk.block b h.lt (fun e => ?_)).trans h.head, ?_, ?_, ?_, fun z hz => ?_, h.low, Tk.ok_tell hs _ (by omega), fun z hz k hk' => ?_⟩
  · exact ty_ne h.head hcg (by decide) e
  · rw [List.length_set, List.map_set]
    have : (PF.map (·.2)).set (s.done + i) y.2 = PF.map (·.2) := by
      apply List.ext_getElem?
      intro j
      rw [List.getElem?_set]
      by_cases e : s.done + i = j
      · subst e
        rw [if_pos rfl, if_pos (by simp; omega), List.getElem?_map, hy]
        rfl
      · rw [if_neg e]
    show World.ownsRow _ _ _ _ _ _ ((PF.map (·.2)).set (s.done + i) y.2)
    rw [this]
    exact owns_by h.said (ne h.said (by decide))
  · have := (World.ownsRow.stored hrow (s.done + i) (.int .i64 (s.clock : Int))).1
    rw [List.length_set, List.map_set, hPl]
    exact this
  · rw [Tk.tell_next s i hi x hx, h.list, List.map_set, ← hyt]
  · rcases hset z hz with h1 | rfl
    · exact hown z h1
    · exact hown y hmem
  · rcases hset z hz with h1 | rfl
    · exact h.far z h1 k hk'
    · exact h.far y hmem k hk'

theorem reftick_nil (w : World) :
    Calls Try.prog 17 #[.pointer none] w fun e w' => e = .returned (.slice none 0 0) ∧ w = w' := by
  go_enter Try.func17, Try.ntmps17
  go_wp2
  go_ret
  exact ⟨rfl, rfl⟩

/-- The tick's own count goes on. -/
theorem rt_tock {w : World} {base : B9} {b : Nat} {s : Tk} {sv tv : Value} {PF : List (Th × Value)} (hh : RtV w base b s sv tv PF) (hc : s.clock < 1000000) : RtV (w.setCell ⟨b, 5, none⟩ (.int .i64 ((s.clock : Int) + 1))) base b s.tock sv tv PF :=
  hh.head' (kset w b 5 _) (by rw [heap_setCell_same _ _ _ _ _ _ hh.head]; simp [Tk.tock]) rfl (Tk.ok_tock hh.ok hc)

set_option maxHeartbeats 4000000 in
theorem reftick_none (base : B9) (b : Nat) (s : Tk) (w : World) (h : RtAt w base b s) (hb : base.n ≤ w.heap.size) (hc : s.clock < 1000000) (hl : s.l.length = 0) :
    Calls Try.prog 17 #[.pointer (some ⟨b, 0, none⟩)] w fun e w' => e = .returned (.slice none 0 0) ∧ RtAt w' base b s.tock ∧ KT refTs base.n w w' := by
  obtain ⟨sv, tv, PF, hh⟩ := h
  obtain ⟨⟨sa, sc, es, hsc1, hsc2⟩, _⟩ := hh.shapes
  subst es
  have HLL := hid s.l_len
  have hdn : s.done ≤ s.all.length := hh.ok.1
  have hde : s.done = s.all.length := by have := HLL.out; omega
  obtain ⟨w1, hw1⟩ : ∃ w1, w1 = w.setCell ⟨b, 5, none⟩ (.int .i64 ((s.clock : Int) + 1)) := ⟨_, rfl⟩
  have H1 := hid (show RtV w1 base b s.tock (.slice sa s.all.length sc) tv PF by rw [hw1]; exact rt_tock hh hc)
  have HK1 := hid (show KT refTs base.n w w1 by rw [hw1]; exact hh.ktS (kset w b 5 _) (fun k _ e => .inl e) hb)
  have HW1 := hid hw1
  have c5 := hh.cells.2.2.2.2.2.1
  have f5 := hh.cells.2.2.2.2.2.2.2.2 5
  have y3 := H1.out.cells.2.2.2.1
  have y6 : w1.cell? ⟨b, 6, none⟩ = some (.int .i64 (s.all.length : Int)) := by rw [← hde]; exact H1.out.cells.2.2.2.2.2.2.1
  have HWR := hid (show IntKind.i64.wrap ((s.clock : Int) + 1) = (s.clock : Int) + 1 by rw [IntKind.wrap_i64]; omega)
  have hwr := HWR.out
  have HBS := hid hb
  clear hh hw1 hb hc hl hde hdn
  go_enter Try.func17, Try.ntmps17
  go_wp2_with fail
  try rw [HWR.out]
  rw [← HW1.out]
  go_quiet (fail)
  go_wp2
  go_ret
  exact ⟨rfl, ⟨_, _, _, H1.out.below (below_behind (Below.refl _ _) _)⟩, HK1.out.trans (KT.of_below (below_behind (Below.refl _ _) _) (Nat.le_trans HBS.out HK1.out.size))⟩

end Go.Proofs.Ytjpojlkdogaalaa
