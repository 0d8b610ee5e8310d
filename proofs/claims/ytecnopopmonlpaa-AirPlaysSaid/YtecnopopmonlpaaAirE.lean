/-
  Layer 9: end, Fly, Lose, Echo: contracts.
-/
import Derived.Test.YtecnopopmonlpaaAirS
namespace Go.Proofs.Ytecnopopmonlpaa
open Go.RowKit
set_option linter.unusedVariables false

def Ar.fin (s : Ar) (i : Nat) : Ar := { s with l := s.l.eraseIdx i }

theorem Ar.fin_ok {s : Ar} (h : s.ok) (i : Nat) : (s.fin i).ok := by
  obtain ⟨o1, o2, o3, o4, o5⟩ := h
  have hs : (s.l.eraseIdx i).Sublist s.l := List.eraseIdx_sublist ..
  exact ⟨o1.sublist (hs.map _), (fun f hf => o2 f (hs.subset hf)), o3, Nat.le_trans hs.length_le o4, fun f hf => o5 f (hs.subset hf)⟩

theorem erase_cells : ∀ (PF : List (Fl × Value)) (i : Nat), (PF.eraseIdx i).flatMap fcells = (PF.flatMap fcells).take (i * 3) ++ (PF.flatMap fcells).drop ((i + 1) * 3)
  | [], i => by simp
  | x :: r, 0 => by
    have : (fcells x).length = 3 := rfl
    rw [List.eraseIdx_cons_zero, List.flatMap_cons, Nat.zero_mul, List.take_zero, List.nil_append, Nat.zero_add, Nat.one_mul, ← this, List.drop_left']
    rfl
  | x :: r, i + 1 => by
    rw [List.eraseIdx_cons_succ, List.flatMap_cons, List.flatMap_cons, erase_cells r i, show (i + 1 + 1) * 3 = (i + 1) * 3 + 1 + 1 + 1 by omega, show (i + 1) * 3 = i * 3 + 1 + 1 + 1 by omega]
    simp [fcells]

theorem map_erase {α β : Type} (f : α → β) : ∀ (l : List α) (i : Nat), (l.map f).eraseIdx i = (l.eraseIdx i).map f
  | [], i => by simp
  | x :: r, 0 => rfl
  | x :: r, i + 1 => by
    rw [List.map_cons, List.eraseIdx_cons_succ, List.eraseIdx_cons_succ, List.map_cons, map_erase f r i]

/-- One has been taken away, and the head names the row that is left. -/
theorem arv_drop {w w5 : World} {base : B9} {b i : Nat} {TA TF : TypeId} {s : Ar} {fv V : Value} {PF : List (Fl × Value)} (h : ArV w base b TA TF s fv PF) (hi : i < s.l.length) (hb : base.n ≤ w.heap.size)
    (hk5 : KT [TF] base.n w w5) (ho : w5.ownsRow base.n TF 3 V (s.l.length - 1) ((PF.flatMap fcells).take (i * 3) ++ (PF.flatMap fcells).drop ((i + 1) * 3))) (h1 : TA ≠ TF) (h2 : TA ≠ 5) (h3 : TF ≠ 5) :
    ArV (w5.setCell ⟨b, 2, none⟩ V) base b TA TF (s.fin i) V (PF.eraseIdx i) ∧ KT [TA, TF] base.n w (w5.setCell ⟨b, 2, none⟩ V) := by
  have hd := hk5.block h.head (by simpa using h1)
  have hp : ∀ x ∈ PF, Own w5 base.n x.2 x.1.t := fun x hx => (h.own x hx).kt hk5 (by simpa using Ne.symm h3)
  have hk := kset w5 b 2 V
  refine ⟨⟨?_, ?_, ?_, ?_, h.low, Ar.fin_ok h.ok i, (fun x hx => h.far x ((List.eraseIdx_sublist ..).subset hx))⟩, (hk5.mono (fun x hx => by simp at hx; subst hx; simp) (Nat.le_refl _)).trans (KT.of_keeps hk ?_ ?_)⟩
  · rw [heap_setCell_same _ _ _ _ _ _ hd]
    simp [Ar.fin]
  · rw [erase_cells, List.length_eraseIdx, if_pos (by rw [h.len]; exact hi), h.len]
    refine owns_by ho fun k hkk => hk.block k (World.ownsRow.lt ho k hkk).2 fun e => ?_
    obtain ⟨cur, hc⟩ := owns_ty ho k hkk
    rw [e, hd] at hc
    simp only [Option.some.injEq, Obj.cells.injEq] at hc
    exact h1 hc.2.1
  · show s.l.eraseIdx i = _
    rw [h.list, map_erase]
  · intro x hx
    exact hv0_own hk (hp x ((List.eraseIdx_sublist ..).subset hx)) hd h2
  · intro k _ e
    subst e
    exact ⟨h.low, _, _, _, hd, by simp⟩
  · exact Nat.le_trans hb hk5.size

set_option maxHeartbeats 1000000 in
theorem end_any (base : B9) (b i : Nat) (s : Ar) (w : World) (h : AirAt w base b s) (hb : base.n ≤ w.heap.size) (hi : i < s.l.length) :
    Calls Try.prog 27 #[.pointer (some ⟨b, 0, none⟩), .int .i64 (i : Int)] w fun e w' => e = .returned (.tuple #[]) ∧ AirAt w' base b (s.fin i) ∧ KT airTs base.n w w' := by
  obtain ⟨fv, PF, hh⟩ := h
  obtain ⟨c0, c1, c2, hfz⟩ := hh.cells
  have hn : s.l.length ≤ 2048 := by obtain ⟨_, _, h3, h4, _⟩ := hh.ok; omega
  rcases owns_shape hh.row with ⟨e0, e1⟩ | ⟨g, cap, rfl, hg1, hg2, hc1, hc2⟩
  · rw [hh.len] at e1; omega
  · rw [hh.len] at c2 hc1
    have HROW := hid (show w.ownsRow base.n 73 3 (.slice (some ⟨g, 0, none⟩) s.l.length cap) s.l.length (PF.flatMap fcells) by have := hh.row; rw [hh.len] at this; exact this)
    have H := hid hh
    have HLEN := hid hh.len
    have HZ := hid hfz
    clear hfz hh c0 c1
    have hi63 : (i : Int) ≤ 2048 := by omega
    go_enter Try.func27, Try.ntmps27
    go_wp2_with fail
    refine (delete_any w base.n g s.l.length cap i (PF.flatMap fcells) HROW.out hi (by omega) (one_fcells H.out.own)).mono ?_
    rintro e w5 ⟨rfl, ho, hk⟩
    have hkt : KT [73] base.n w w5 := KT.of_keeps hk (fun k hlt e => by
      subst e
      obtain ⟨cur, hc⟩ := owns_ty HROW.out k rfl
      exact ⟨(World.ownsRow.lt HROW.out k rfl).1, _, _, _, hc, by simp⟩) hb
    have hH : ArV w base b 67 73 s (.slice (some ⟨g, 0, none⟩) s.l.length cap) PF := by have := H.out; rw [HLEN.out] at this; exact this
    have HFIN := hid (arv_drop hH hi hb hkt ho (by decide) (by decide) (by decide))
    have hd5 := hkt.block hH.head (by decide)
    have x2 : w5.cell? ⟨b, 2, none⟩ = some (.slice (some ⟨g, 0, none⟩) s.l.length cap) := (cell_of_row _ _ _ _ _ _ hd5).trans rfl
    have z2 : w5.frozen? ⟨b, 2, none⟩ = false := frozen_of_row _ _ _ _ _ hd5
    clear ho hk hkt hH hd5
    go_wp2_with fail
    go_end0
    exact ⟨rfl, ⟨_, _, HFIN.out.1⟩, HFIN.out.2⟩

set_option maxHeartbeats 1000000 in
theorem fly_nil (to : Int) (o : Value) (w : World) :
    Calls Try.prog 10 #[.pointer none, .agg #[.int .i64 to, o]] w fun e w' => e = .returned (.tuple #[.int .u64 0, .int .i64 6]) ∧ Below w.heap.size w w' := by
  go_enter Try.func10, Try.ntmps10
  go_wp2_with fail
  go_ret2
  exact ⟨rfl, (Below.refl _ _).alloc (Nat.le_refl _) _⟩

set_option maxHeartbeats 1000000 in
theorem fly_full (base : B9) (b : Nat) (s : Ar) (to : Int) (o : Value) (w : World) (h : AirAt w base b s) (hr : s.room ≤ s.l.length) :
    Calls Try.prog 10 #[.pointer (some ⟨b, 0, none⟩), .agg #[.int .i64 to, o]] w fun e w' => e = .returned (.tuple #[.int .u64 0, .int .i64 8]) ∧ Below w.heap.size w w' := by
  have hT : true = decide (s.room ≤ s.l.length) := by simpa using hr
  have HT := hid hT
  have H := hid (h.below ((Below.refl w.heap.size w).alloc (Nat.le_refl _) (.cells #[.int .i64 to, o] 34)))
  clear h hr hT
  go_enter Try.func10, Try.ntmps10
  go_wp2_with fail
  refine (full_any base b s _ H.out true HT.out).mono ?_
  rintro e w5 ⟨rfl, hb5⟩
  have HB5 := hid hb5
  clear hb5
  go_wp2_with fail
  go_ret2
  exact ⟨rfl, ((Below.refl _ _).alloc (Nat.le_refl _) _).trans (HB5.out.mono (by simp))⟩

set_option maxHeartbeats 1000000 in
theorem fly_yes (base : B9) (b : Nat) (s : Ar) (to : Int) (oa : Option Addr) (oc : Nat) (t : List UInt8) (w : World) (h : AirAt w base b s) (hb : base.n ≤ w.heap.size) (hv : Rd w (.slice oa t.length oc) t) (hr : s.l.length < s.room) (hlast : s.last ≤ 1000000) (ht : t.length ≤ 140737488355328) (hP : ∀ k, w.heap.size ≤ k → base.P k := by intros; trivial) :
    Calls Try.prog 10 #[.pointer (some ⟨b, 0, none⟩), .agg #[.int .i64 to, .slice oa t.length oc]] w fun e w' => e = .returned (.tuple #[.int .u64 ((s.last : Int) + 1), .int .i64 0]) ∧ AirAt w' base b (s.fly to t) ∧ KT airTs base.n w w' := by
  have hT : false = decide (s.room ≤ s.l.length) := by simp; omega
  have HT := hid hT
  obtain ⟨w1, hw1⟩ : ∃ w1, w1 = w.alloc (.cells #[.int .i64 to, .slice oa t.length oc] 34) := ⟨_, rfl⟩
  have hb1 : Below w.heap.size w w1 := by rw [hw1]; exact (Below.refl w.heap.size w).alloc (Nat.le_refl _) _
  have H := hid (h.below hb1)
  have HV := hid (hv.below hb1)
  have HG := hid (show w1.heap[w.heap.size]? = some (.cells #[.int .i64 to, .slice oa t.length oc] 34 (0, 0)) by rw [hw1]; exact heap_alloc_new w _)
  have hlt : w.heap.size < w1.heap.size := by rw [hw1]; simp
  have HB1 := hid hb1
  clear h hT hv hb1
  go_enter Try.func10, Try.ntmps10
  go_wp2_with fail
  rw [← hw1]
  clear hw1
  refine (full_any base b s _ H.out false HT.out).mono ?_
  rintro e w5 ⟨rfl, hb5⟩
  have HB5 := hid hb5
  have hs5 := hb5.size
  have G5 := (hb5.block _ hlt).trans HG.out
  have x0 : w5.cell? ⟨w.heap.size, 0, none⟩ = some (.int .i64 to) := (cell_of_row _ _ _ _ _ _ G5).trans rfl
  have x1 : w5.cell? ⟨w.heap.size, 1, none⟩ = some (.slice oa t.length oc) := (cell_of_row _ _ _ _ _ _ G5).trans rfl
  clear hb5 G5
  go_wp2_with fail
  refine (copied_any to (.slice oa t.length oc) t w5 (HV.out.below HB5.out) ht).mono ?_
  rintro e w6 ⟨v', rfl, ho, hb6⟩
  obtain ⟨xa, xc, ex⟩ := rd_sl ho.rd
  subst ex
  have HO := hid ho
  have HB6 := hid hb6
  have hs6 := hb6.size
  clear ho hb6
  go_wp2_with fail
  refine (start_any base b s to xa xc t w6 ((H.out.below HB5.out).below HB6.out) (by omega) (owns_base HO.out (by omega)) (fun k hk => hP k (by have := (HO.out.lt k hk).1; have := HB1.out.size; omega)) hr hlast ht).mono ?_
  rintro e w7 ⟨rfl, ha7, hk7⟩
  have HA7 := hid ha7
  have HK7 := hid hk7
  clear ha7 hk7
  go_wp2_with fail
  go_ret2
  exact ⟨rfl, HA7.out, ((KT.of_below HB1.out hb).trans ((KT.of_below HB5.out (by omega)).trans (KT.of_below HB6.out (by omega)))).trans HK7.out⟩

theorem Found.yes {l : List Fl} {i r : Nat} {x : Fl} {f : Bool} (h : Found l x.id r f) (hs : (l.map (·.id)).Pairwise (· < ·)) (hx : l[i]? = some x) : f = true ∧ r = i := by
  obtain ⟨h1, h2, h3⟩ := h
  cases f with
  | false =>
    have := h3 rfl x (List.mem_of_getElem? hx)
    exact absurd rfl this
  | true =>
    obtain ⟨y, hy, e⟩ := h2 rfl
    refine ⟨rfl, ?_⟩
    rcases Nat.lt_trichotomy r i with h | h | h
    · have := sorted_get hs hy hx h; omega
    · exact h
    · have := sorted_get hs hx hy h; omega

theorem Found.no {l : List Fl} {id r : Nat} {f : Bool} (h : Found l id r f) (hx : ∀ x ∈ l, x.id ≠ id) : f = false := by
  obtain ⟨h1, h2, h3⟩ := h
  cases f with
  | false => rfl
  | true =>
    obtain ⟨y, hy, e⟩ := h2 rfl
    exact absurd e (hx y (List.mem_of_getElem? hy))

set_option maxHeartbeats 1000000 in
theorem lose_yes (base : B9) (b i : Nat) (s : Ar) (x : Fl) (w : World) (h : AirAt w base b s) (hb : base.n ≤ w.heap.size) (hx : s.l[i]? = some x) :
    Calls Try.prog 18 #[.pointer (some ⟨b, 0, none⟩), .int .u64 (x.id : Int)] w fun e w' => e = .returned (.int .i64 0) ∧ AirAt w' base b (s.fin i) ∧ KT airTs base.n w w' := by
  have hi : i < s.l.length := (List.getElem?_eq_some_iff.1 hx).1
  have HX := hid hx
  have H := hid h
  have HS := hid (show (s.l.map (·.id)).Pairwise (· < ·) by obtain ⟨_, _, hh⟩ := h; exact hh.ok.1)
  clear hx h
  go_enter Try.func18, Try.ntmps18
  go_wp2_with fail
  refine (find_any base b x.id s w H.out).mono ?_
  rintro e w5 ⟨r, f, rfl, hf, hb5⟩
  obtain ⟨rfl, rfl⟩ := hf.yes HS.out HX.out
  have HB5 := hid hb5
  have hs5 := hb5.size
  clear hf hb5
  go_wp2_with fail
  refine (end_any base b r s w5 (H.out.below HB5.out) (by omega) hi).mono ?_
  rintro e w6 ⟨rfl, ha, hk⟩
  have HA := hid ha
  have HK := hid hk
  clear ha hk
  go_wp2_with fail
  go_ret
  exact ⟨rfl, HA.out, (KT.of_below HB5.out hb).trans HK.out⟩

set_option maxHeartbeats 1000000 in
theorem lose_no (base : B9) (b id : Nat) (s : Ar) (w : World) (h : AirAt w base b s) (hx : ∀ x ∈ s.l, x.id ≠ id) :
    Calls Try.prog 18 #[.pointer (some ⟨b, 0, none⟩), .int .u64 (id : Int)] w fun e w' => e = .returned (.int .i64 6) ∧ Below w.heap.size w w' := by
  have HX := hid hx
  have H := hid h
  clear hx h
  go_enter Try.func18, Try.ntmps18
  go_wp2_with fail
  refine (find_any base b id s w H.out).mono ?_
  rintro e w5 ⟨r, f, rfl, hf, hb5⟩
  obtain rfl := hf.no HX.out
  have HB5 := hid hb5
  clear hf hb5
  go_wp2_with fail
  go_ret
  exact ⟨rfl, HB5.out⟩

theorem lose_nil (id : Nat) (w : World) :
    Calls Try.prog 18 #[.pointer none, .int .u64 (id : Int)] w fun e w' => e = .returned (.int .i64 6) ∧ w = w' := by
  go_enter Try.func18, Try.ntmps18
  go_wp2_with fail
  refine (find_nil id w).mono ?_
  rintro e w5 ⟨rfl, rfl⟩
  go_wp2_with fail
  go_ret
  exact ⟨rfl, rfl⟩

end Go.Proofs.Ytecnopopmonlpaa
