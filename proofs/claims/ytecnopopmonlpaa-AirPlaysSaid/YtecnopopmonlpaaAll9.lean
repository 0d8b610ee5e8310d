/-
  Layer 9: each call, whatever flies: of the air, and of the document's.
-/
import Derived.Test.YtecnopopmonlpaaRefL9
import Derived.Test.YtecnopopmonlpaaRefB9
namespace Go.Proofs.Ytecnopopmonlpaa
open Go.RowKit
set_option linter.unusedVariables false

def Ar.flyS (s : Ar) (to : Int) (t : List UInt8) : Ar × Int × Int := if s.l.length < s.room then (s.fly to t, (s.last : Int) + 1, 0) else (s, 0, 8)
def Ar.at (s : Ar) (id : Nat) : Option Nat := s.l.findIdx? (fun f => f.id == id)
def Ar.landS (s : Ar) (id : Nat) : Ar × Int × List UInt8 × Int :=
  match s.at id with
  | none => (s, 0, [], 6)
  | some i => (s.fin i, (s.l.getD i ⟨0, 0, []⟩).to, (s.l.getD i ⟨0, 0, []⟩).t, 0)
def Ar.echoS (s : Ar) (id : Nat) : Ar × Int × Int :=
  match s.at id with
  | none => (s, 0, 6)
  | some i => s.flyS (s.l.getD i ⟨0, 0, []⟩).to (s.l.getD i ⟨0, 0, []⟩).t

theorem at_some {s : Ar} {id i : Nat} (h : s.at id = some i) : s.l[i]? = some (s.l.getD i ⟨0, 0, []⟩) ∧ (s.l.getD i ⟨0, 0, []⟩).id = id := by
  obtain ⟨h1, h2, _⟩ := List.findIdx?_eq_some_iff_getElem.1 h
  have e : s.l.getD i ⟨0, 0, []⟩ = s.l[i] := by simp [List.getD_eq_getElem?_getD, h1]
  rw [e]
  exact ⟨List.getElem?_eq_getElem h1, by simpa using h2⟩

theorem at_none {s : Ar} {id : Nat} (h : s.at id = none) : ∀ x ∈ s.l, x.id ≠ id := by
  have := List.findIdx?_eq_none_iff.1 h
  intro x hx e
  have := this x hx
  simp [e] at this

theorem flyS_last (s : Ar) (to : Int) (t : List UInt8) : (s.flyS to t).1.last ≤ s.last + 1 := by
  unfold Ar.flyS
  split
  · exact Nat.le_refl _
  · exact Nat.le_succ _
theorem landS_last (s : Ar) (id : Nat) : (s.landS id).1.last ≤ s.last := by
  unfold Ar.landS
  split <;> exact Nat.le_refl _
theorem echoS_last (s : Ar) (id : Nat) : (s.echoS id).1.last ≤ s.last + 1 := by
  unfold Ar.echoS
  split
  · exact Nat.le_succ _
  · exact flyS_last _ _ _

theorem rd_len {w : World} {va : Option Addr} {n vc : Nat} {l : List UInt8} (h : Rd w (.slice va n vc) l) : n = l.length := by
  obtain ⟨a, c, e, _⟩ := h
  simp only [Value.slice.injEq] at e
  exact e.2.1

set_option maxHeartbeats 1000000 in
theorem reffly_nil (to : Int) (o : Value) (w : World) :
    Calls Try.prog 11 #[.pointer none, .agg #[.int .i64 to, o]] w fun e w' => e = .returned (.tuple #[.int .u64 0, .int .i64 6]) ∧ Below w.heap.size w w' := by
  go_enter Try.func11, Try.ntmps11
  go_wp2_with fail
  go_ret2
  exact ⟨rfl, (Below.refl _ _).alloc (Nat.le_refl _) _⟩

set_option maxHeartbeats 1000000 in
theorem reffly_full (base : B9) (b : Nat) (s : Ar) (to : Int) (o : Value) (w : World) (h : RefAirAt w base b s) (hr : s.room ≤ s.l.length) :
    Calls Try.prog 11 #[.pointer (some ⟨b, 0, none⟩), .agg #[.int .i64 to, o]] w fun e w' => e = .returned (.tuple #[.int .u64 0, .int .i64 8]) ∧ Below w.heap.size w w' := by
  obtain ⟨fv, PF, hh⟩ := h
  obtain ⟨fa, fc, efv, hc1, hc2⟩ := hh.shape
  subst efv
  have hn : s.l.length = s.room := by obtain ⟨_, _, h3, h4, _⟩ := hh.ok; omega
  obtain ⟨w1, hw1⟩ : ∃ w1, w1 = w.alloc (.cells #[.int .i64 to, o] 34) := ⟨_, rfl⟩
  have hb1 : Below w.heap.size w w1 := by rw [hw1]; exact (Below.refl w.heap.size w).alloc (Nat.le_refl _) _
  obtain ⟨c0, c1, c2, hfz⟩ := (hh.below hb1).cells
  have d0 : w1.drew.cell? ⟨b, 0, none⟩ = some (.int .i64 (s.room : Int)) := c0
  have d2 : w1.drew.cell? ⟨b, 2, none⟩ = some (.slice fa s.l.length fc) := c2
  have hne : ((s.l.length : Int) == (s.room : Int)) = true := by rw [beq_iff_eq]; omega
  have HB1 := hid hb1
  clear hh hb1 hfz hn c0 c1 c2
  go_enter Try.func11, Try.ntmps11
  go_wp2_with fail
  rw [← hw1]
  clear hw1
  go_region_held3 (fun w' => w'.cell? ⟨b, 0, none⟩ = some (.int .i64 (s.room : Int)) ∧ w'.cell? ⟨b, 2, none⟩ = some (.slice fa s.l.length fc)) (first | (refine ⟨?_, ?_⟩ <;> assumption) | fail) (fail)
  go_wp2_with fail
  go_ret2
  exact ⟨rfl, below_dr HB1.out⟩

theorem airfly_all (base : B9) (b : Nat) (s : Ar) (to : Int) (oa : Option Addr) (oc : Nat) (t : List UInt8) (w : World) (h : AirAt w base b s) (hb : base.n ≤ w.heap.size) (hv : Rd w (.slice oa t.length oc) t) (hlast : s.last ≤ 1000000) (ht : t.length ≤ 140737488355328) (hP : ∀ k, w.heap.size ≤ k → base.P k) :
    Calls Try.prog 10 #[.pointer (some ⟨b, 0, none⟩), .agg #[.int .i64 to, .slice oa t.length oc]] w fun e w' => e = .returned (.tuple #[.int .u64 (s.flyS to t).2.1, .int .i64 (s.flyS to t).2.2]) ∧ AirAt w' base b (s.flyS to t).1 ∧ KT airTs base.n w w' := by
  by_cases hr : s.l.length < s.room
  · have e : s.flyS to t = (s.fly to t, (s.last : Int) + 1, 0) := by unfold Ar.flyS; rw [if_pos hr]
    rw [e]
    exact fly_yes base b s to oa oc t w h hb hv hr hlast ht hP
  · have e : s.flyS to t = (s, 0, 8) := by unfold Ar.flyS; rw [if_neg hr]
    rw [e]
    exact (fly_full base b s to _ w h (by omega)).mono fun e w' hh => ⟨hh.1, h.below hh.2, KT.of_below hh.2 hb⟩

theorem reffly_all (base : B9) (b : Nat) (s : Ar) (to : Int) (oa : Option Addr) (oc : Nat) (t : List UInt8) (w : World) (h : RefAirAt w base b s) (hb : base.n ≤ w.heap.size) (hv : Rd w (.slice oa t.length oc) t) (hlast : s.last ≤ 1000000) (ht : t.length ≤ 140737488355328) (hP : ∀ k, w.heap.size ≤ k → base.P k) :
    Calls Try.prog 11 #[.pointer (some ⟨b, 0, none⟩), .agg #[.int .i64 to, .slice oa t.length oc]] w fun e w' => e = .returned (.tuple #[.int .u64 (s.flyS to t).2.1, .int .i64 (s.flyS to t).2.2]) ∧ RefAirAt w' base b (s.flyS to t).1 ∧ KT refTs base.n w w' := by
  by_cases hr : s.l.length < s.room
  · have e : s.flyS to t = (s.fly to t, (s.last : Int) + 1, 0) := by unfold Ar.flyS; rw [if_pos hr]
    rw [e]
    exact reffly_yes base b s to oa oc t w h hb hv hr hlast ht hP
  · have e : s.flyS to t = (s, 0, 8) := by unfold Ar.flyS; rw [if_neg hr]
    rw [e]
    exact (reffly_full base b s to _ w h (by omega)).mono fun e w' hh => ⟨hh.1, h.below hh.2, KT.of_below hh.2 hb⟩

theorem airland_all (base : B9) (b id : Nat) (s : Ar) (w : World) (h : AirAt w base b s) (hb : base.n ≤ w.heap.size) :
    Calls Try.prog 13 #[.pointer (some ⟨b, 0, none⟩), .int .u64 (id : Int)] w fun e w' => ∃ va n vc, e = .returned (.tuple #[.agg #[.int .i64 (s.landS id).2.1, .slice va n vc], .int .i64 (s.landS id).2.2.2]) ∧ Own w' w.heap.size (.slice va n vc) (s.landS id).2.2.1 ∧ AirAt w' base b (s.landS id).1 ∧ KT airTs base.n w w' := by
  cases hi : s.at id with
  | none =>
    have e : s.landS id = (s, 0, [], 6) := by unfold Ar.landS; rw [hi]
    rw [e]
    exact (land_no base b id s w h (at_none hi)).mono fun e w' hh => ⟨none, 0, 0, hh.1, Own.nil _ _, h.below hh.2, KT.of_below hh.2 hb⟩
  | some i =>
    have e : s.landS id = (s.fin i, (s.l.getD i ⟨0, 0, []⟩).to, (s.l.getD i ⟨0, 0, []⟩).t, 0) := by unfold Ar.landS; rw [hi]
    rw [e]
    obtain ⟨h1, h2⟩ := at_some hi
    have := land_yes base b i s _ w h hb h1
    rw [h2] at this
    exact this.mono fun e w' hh => by
      obtain ⟨va, vc, he, ho, ha, hk⟩ := hh
      exact ⟨va, _, vc, he, ho, ha, hk⟩

theorem refland_all (base : B9) (b id : Nat) (s : Ar) (w : World) (h : RefAirAt w base b s) (hb : base.n ≤ w.heap.size) :
    Calls Try.prog 14 #[.pointer (some ⟨b, 0, none⟩), .int .u64 (id : Int)] w fun e w' => ∃ va n vc, e = .returned (.tuple #[.agg #[.int .i64 (s.landS id).2.1, .slice va n vc], .int .i64 (s.landS id).2.2.2]) ∧ Own w' base.n (.slice va n vc) (s.landS id).2.2.1 ∧ RefAirAt w' base b (s.landS id).1 ∧ KT refTs base.n w w' := by
  cases hi : s.at id with
  | none =>
    have e : s.landS id = (s, 0, [], 6) := by unfold Ar.landS; rw [hi]
    rw [e]
    exact (refland_no base b id s w h (at_none hi)).mono fun e w' hh => ⟨none, 0, 0, hh.1, Own.nil _ _, h.below hh.2, KT.of_below hh.2 hb⟩
  | some i =>
    have e : s.landS id = (s.fin i, (s.l.getD i ⟨0, 0, []⟩).to, (s.l.getD i ⟨0, 0, []⟩).t, 0) := by unfold Ar.landS; rw [hi]
    rw [e]
    obtain ⟨h1, h2⟩ := at_some hi
    have := refland_yes base b i s _ w h hb h1
    rw [h2] at this
    exact this.mono fun e w' hh => by
      obtain ⟨va, vc, he, ho, ha, hk⟩ := hh
      exact ⟨va, _, vc, he, ho, ha, hk⟩

theorem airecho_all (base : B9) (b id : Nat) (s : Ar) (w : World) (h : AirAt w base b s) (hb : base.n ≤ w.heap.size) (hlast : s.last ≤ 1000000) :
    Calls Try.prog 16 #[.pointer (some ⟨b, 0, none⟩), .int .u64 (id : Int)] w fun e w' => e = .returned (.tuple #[.int .u64 (s.echoS id).2.1, .int .i64 (s.echoS id).2.2]) ∧ AirAt w' base b (s.echoS id).1 ∧ KT airTs base.n w w' := by
  cases hi : s.at id with
  | none =>
    have e : s.echoS id = (s, 0, 6) := by unfold Ar.echoS; rw [hi]
    rw [e]
    exact (echo_no base b id s w h (at_none hi)).mono fun e w' hh => ⟨hh.1, h.below hh.2, KT.of_below hh.2 hb⟩
  | some i =>
    obtain ⟨h1, h2⟩ := at_some hi
    by_cases hr : s.l.length < s.room
    · have e : s.echoS id = (s.fly (s.l.getD i ⟨0, 0, []⟩).to (s.l.getD i ⟨0, 0, []⟩).t, (s.last : Int) + 1, 0) := by unfold Ar.echoS; rw [hi]; simp only []; unfold Ar.flyS; rw [if_pos hr]
      rw [e]
      have := echo_yes base b i s _ w h hb h1 hr hlast
      rw [h2] at this
      exact this
    · have e : s.echoS id = (s, 0, 8) := by unfold Ar.echoS; rw [hi]; simp only []; unfold Ar.flyS; rw [if_neg hr]
      rw [e]
      have := echo_full base b i s _ w h h1 (by omega)
      rw [h2] at this
      exact this.mono fun e w' hh => ⟨hh.1, h.below hh.2, KT.of_below hh.2 hb⟩

theorem airlose_all (base : B9) (b id : Nat) (s : Ar) (w : World) (h : AirAt w base b s) (hb : base.n ≤ w.heap.size) :
    Calls Try.prog 18 #[.pointer (some ⟨b, 0, none⟩), .int .u64 (id : Int)] w fun e w' => e = .returned (.int .i64 (s.landS id).2.2.2) ∧ AirAt w' base b (s.landS id).1 ∧ KT airTs base.n w w' := by
  cases hi : s.at id with
  | none =>
    have e : s.landS id = (s, 0, [], 6) := by unfold Ar.landS; rw [hi]
    rw [e]
    exact (lose_no base b id s w h (at_none hi)).mono fun e w' hh => ⟨hh.1, h.below hh.2, KT.of_below hh.2 hb⟩
  | some i =>
    have e : s.landS id = (s.fin i, (s.l.getD i ⟨0, 0, []⟩).to, (s.l.getD i ⟨0, 0, []⟩).t, 0) := by unfold Ar.landS; rw [hi]
    rw [e]
    obtain ⟨h1, h2⟩ := at_some hi
    have := lose_yes base b i s _ w h hb h1
    rw [h2] at this
    exact this

theorem reffind_some (base : B9) (b id i : Nat) (s : Ar) (w : World) (h : RefAirAt w base b s) (hi : s.at id = some i) :
    Calls Try.prog 17 #[.pointer (some ⟨b, 0, none⟩), .int .u64 (id : Int)] w fun e w' => e = .returned (.int .i64 (i : Int)) ∧ Below w.heap.size w w' :=
  (reffind_any base b id s w h).mono fun e w' ⟨r, he, hf, hb⟩ => by
    obtain ⟨h1, h2⟩ := at_some hi
    obtain ⟨_, _, hh⟩ := h
    rw [← h2] at hf
    rw [hf.yes hh.ok.1 h1] at he
    exact ⟨he, hb⟩

theorem reffind_none (base : B9) (b id : Nat) (s : Ar) (w : World) (h : RefAirAt w base b s) (hi : s.at id = none) :
    Calls Try.prog 17 #[.pointer (some ⟨b, 0, none⟩), .int .u64 (id : Int)] w fun e w' => e = .returned (.int .i64 (-1)) ∧ Below w.heap.size w w' :=
  (reffind_any base b id s w h).mono fun e w' ⟨r, he, hf, hb⟩ => by
    rw [hf.no (at_none hi)] at he
    exact ⟨he, hb⟩

/-- With bytes that lie elsewhere. -/
theorem ArAt.avoid {w : World} {n b : Nat} {TA TF : TypeId} {s : Ar} {v : Value} (h : ArAt w (n : B9) b TA TF s) (hv : ∀ k, v.ownBlock = some k → w.heap.size ≤ k) : ArAt w ⟨n, fun k => v.ownBlock ≠ some k⟩ b TA TF s := by
  obtain ⟨fv, PF, hh⟩ := h
  exact ⟨fv, PF, hh.head, hh.row, hh.list, hh.own, hh.low, hh.ok, fun x hx k hk e => by
    have h1 := ((hh.own x hx).lt k hk).2
    have h2 := hv k e
    omega⟩

theorem ArAt.weak {w : World} {n b : Nat} {P : Nat → Prop} {TA TF : TypeId} {s : Ar} (h : ArAt w ⟨n, P⟩ b TA TF s) : ArAt w (n : B9) b TA TF s := by
  obtain ⟨fv, PF, hh⟩ := h
  exact ⟨fv, PF, hh.head, hh.row, hh.list, hh.own, hh.low, hh.ok, fun x hx k hk => trivial⟩

/-- Bytes of another block are written. -/
theorem ArAt.keepsOwn {w w' : World} {n b b0 : Nat} {TA TF : TypeId} {s : Ar} {v : Value} {l : List UInt8} (h : ArAt w ⟨n, fun k => v.ownBlock ≠ some k⟩ b TA TF s) (ho : Own w b0 v l) (hk : Keeps (fun j => v.ownBlock = some j) w w') (h1 : TA ≠ 5) (h2 : TF ≠ 5) : ArAt w' ⟨n, fun k => v.ownBlock ≠ some k⟩ b TA TF s := by
  obtain ⟨fv, PF, hh⟩ := h
  have ne : ∀ {k : Nat} {cs : Array Value} {T : TypeId}, w.heap[k]? = some (.cells cs T (0, 0)) → T ≠ 5 → ¬ v.ownBlock = some k := by
    intro k cs T hc hT e
    obtain ⟨cur, h9⟩ := owns_ty ho k e
    rw [hc] at h9
    simp only [Option.some.injEq, Obj.cells.injEq] at h9
    exact hT h9.2.1
  refine ⟨fv, PF, (hk.block b hh.lt (ne hh.head h1)).trans hh.head, owns_by hh.row fun k e => ?_, hh.list, fun x hx => (hh.own x hx).to fun k e => hk.block k ((hh.own x hx).lt k e).2 (hh.far x hx k e), hh.low, hh.ok, hh.far⟩
  obtain ⟨cur, hc⟩ := owns_ty hh.row k e
  exact hk.block k (World.ownsRow.lt hh.row k e).2 (ne hc h2)

end Go.Proofs.Ytecnopopmonlpaa
