/-
  What is so of every table: numbers rise, and who is over is active no more; a request that was done and is told again.
  A slice of layer 16's Ops that came in.
  A map of bools that the law makes itself: what it tells of each key.
-/
import Derived.Test.YtahiaifdfgkemaaJbQ
import Derived.Deep.Slices
import Derived.OpenShut
import Derived.Test.YtahiaifdfgkemaaKit
import Derived.Maps.Own
import Derived.Maps.OwnOps
import Derived.Maps.Views
import Derived.DataShut
namespace Go.Proofs.Ytahiaifdfgkemaa
open Go.RowKit
set_option linter.unusedVariables false
set_option linter.unusedSimpArgs false

structure Tb.ok (t : Tb) : Prop where
  rise : t.act.Pairwise (fun x y => x.1 < y.1)
  le : ∀ x ∈ t.act, x.1 ≤ t.last
  ole : ∀ x ∈ t.over, x.1 ≤ t.last
  apart : ∀ x ∈ t.over, ∀ y ∈ t.act, y.1 ≠ x.1
  a64 : t.act.length ≤ 64
  o64 : t.over.length ≤ 64
  r8 : t.rs.length = 8
theorem ok_new (n : Nat) : (newTb n).ok := ⟨List.Pairwise.nil, fun x hx => (by cases hx), fun x hx => (by cases hx), fun x hx => (by cases hx), Nat.zero_le _, Nat.zero_le _, rfl⟩
/-- What a call leaves: no number is active again. -/
structure Tb.next (t t' : Tb) : Prop where
  ok : t'.ok
  last : t'.last = t.last ∨ t'.last = t.last + 1
  gone : ∀ z, z ≤ t.last → (∀ x ∈ t.act, x.1 ≠ z) → ∀ x ∈ t'.act, x.1 ≠ z
theorem next_refl {t : Tb} (h : t.ok) : t.next t := ⟨h, .inl rfl, fun z _ hz => hz⟩
theorem cut64_sub (l : List Jb) : ∀ x ∈ cut64 l, x ∈ l := by
  intro x hx
  unfold cut64 at hx
  split at hx
  · exact List.mem_of_mem_drop hx
  · exact hx
theorem cut64_len (l : List Jb) (h : l.length ≤ 65) : (cut64 l).length ≤ 64 := by
  unfold cut64
  split
  · rw [List.length_drop]; omega
  · omega
theorem next_ended {t : Tb} (h : t.ok) {i : Nat} {x y : Jb} (hx : t.act[i]? = some x) (hy : y.1 = x.1) : t.next (t.ended i y) := by
  have hsub : (t.act.eraseIdx i).Sublist t.act := List.eraseIdx_sublist _ _
  have hne : ∀ z ∈ t.act.eraseIdx i, z.1 ≠ x.1 := by
    intro z hz e
    rw [List.mem_eraseIdx_iff_getElem?] at hz
    obtain ⟨j, hj, hzj⟩ := hz
    have hi := (List.getElem?_eq_some_iff.1 hx)
    have hj' := (List.getElem?_eq_some_iff.1 hzj)
    obtain ⟨hil, hie⟩ := hi
    obtain ⟨hjl, hje⟩ := hj'
    have hp := List.pairwise_iff_getElem.1 h.rise
    rcases Nat.lt_or_ge i j with hlt | hge
    · have := hp i j hil hjl hlt
      rw [hie, hje] at this
      omega
    · have := hp j i hjl hil (by omega)
      rw [hie, hje] at this
      omega
  have hxm : x ∈ t.act := List.mem_of_getElem? hx
  refine ⟨⟨h.rise.sublist hsub, fun z hz => h.le z (hsub.subset hz), fun z hz => ?_, fun z hz v hv => ?_, Nat.le_trans hsub.length_le h.a64, cut64_len _ (by rw [List.length_append]; have := h.o64; simp; omega), h.r8⟩, .inl rfl, fun z _ hz v hv => hz v (hsub.subset hv)⟩
  · rcases List.mem_append.1 (cut64_sub _ _ hz) with h1 | h1
    · exact h.ole z h1
    · rw [List.mem_singleton] at h1
      subst h1
      rw [hy]
      exact h.le x hxm
  · rcases List.mem_append.1 (cut64_sub _ _ hz) with h1 | h1
    · exact h.apart z h1 v (hsub.subset hv)
    · rw [List.mem_singleton] at h1
      subst h1
      rw [hy]
      exact hne v hv
theorem next_finish {t : Tb} (h : t.ok) (z : Nat) : t.next (t.finish z).2 := by
  unfold Tb.finish
  rcases at_cases t z with ⟨_, e⟩ | ⟨_, _, e⟩ | ⟨_, i, x, _, hx, _, e⟩
  · rw [e]; exact next_refl h
  · rw [e]; exact next_refl h
  · rw [e]; exact next_ended h hx rfl
theorem next_cancel {t : Tb} (h : t.ok) (z : Nat) : t.next (t.cancel z).2 ∧ (t.cancel z).2.rs = t.rs ∧ (t.cancel z).2.last = t.last := by
  unfold Tb.cancel
  rcases at_cases t z with ⟨_, e⟩ | ⟨_, _, e⟩ | ⟨_, i, x, _, hx, _, e⟩
  · rw [e]; exact ⟨next_refl h, rfl, rfl⟩
  · rw [e]; exact ⟨next_refl h, rfl, rfl⟩
  · rw [e]; exact ⟨next_ended h hx rfl, rfl, rfl⟩
theorem next_submit {t : Tb} (h : t.ok) (q : Note.Q) : t.next (t.submit q).2 ∧ (t.submit q).2.rs = t.rs ∧ ((t.submit q).1.2 ≠ 0 → (t.submit q).2 = t) := by
  unfold Tb.submit
  split
  · exact ⟨next_refl h, rfl, fun _ => rfl⟩
  · split
    · exact ⟨next_refl h, rfl, fun _ => rfl⟩
    · split
      · exact ⟨next_refl h, rfl, fun _ => rfl⟩
      · rename_i hl
        refine ⟨⟨⟨?_, ?_, ?_, ?_, ?_, h.o64, h.r8⟩, .inr rfl, ?_⟩, rfl, fun h => absurd rfl h⟩
        · refine List.pairwise_append.2 ⟨h.rise, List.pairwise_singleton _ _, fun x hx y hy => ?_⟩
          rw [List.mem_singleton] at hy
          subst hy
          have := h.le x hx
          show x.1 < t.last + 1
          omega
        · intro x hx
          rcases List.mem_append.1 hx with h1 | h1
          · exact Nat.le_succ_of_le (h.le x h1)
          · rw [List.mem_singleton] at h1
            subst h1
            exact Nat.le_refl _
        · intro x hx
          exact Nat.le_succ_of_le (h.ole x hx)
        · intro x hx y hy
          rcases List.mem_append.1 hy with h1 | h1
          · exact h.apart x hx y h1
          · rw [List.mem_singleton] at h1
            subst h1
            have := h.ole x hx
            show t.last + 1 ≠ x.1
            omega
        · rw [List.length_append]
          simp
          omega
        · intro z hz hn x hx
          rcases List.mem_append.1 hx with h1 | h1
          · exact hn x h1
          · rw [List.mem_singleton] at h1
            subst h1
            show t.last + 1 ≠ z
            omega

theorem next_change {t : Tb} (h : t.ok) (q : Note.Q) : t.next (t.change q).2 ∧ (t.change q).2.rs = t.rs ∧ ((t.change q).1.2 ≠ 0 → (t.change q).2 = t) := by
  unfold Tb.change
  split
  · exact next_submit h q
  · refine ⟨(next_cancel h q.j).1, (next_cancel h q.j).2.1, ?_⟩
    unfold Tb.cancel
    rcases at_cases t q.j with ⟨_, e⟩ | ⟨_, _, e⟩ | ⟨_, i, x, _, hx, _, e⟩
    · rw [e]; exact fun _ => rfl
    · rw [e]; exact fun _ => rfl
    · rw [e]; exact fun h => absurd rfl h
theorem right_cl {q : Note.Q} (hr : q.right = true) : q.cl < 8 := by
  unfold Note.Q.right at hr
  simp only [Bool.and_eq_true, decide_eq_true_eq] at hr
  exact hr.1.1.1
theorem turn_same {s l : Nat} (h : turn s l = 0) : turn s s = 0 := by
  unfold turn at h ⊢
  by_cases h0 : s = 0
  · rw [if_pos h0] at h; cases h
  · rw [if_neg h0, if_neg (by omega), if_neg (by omega)]
theorem next_rs {t t' : Tb} (h : t.next t') {rs : List Note.R} (hr : rs.length = 8) : t.next { t' with rs := rs } :=
  ⟨⟨h.ok.rise, h.ok.le, h.ok.ole, h.ok.apart, h.ok.a64, h.ok.o64, hr⟩, h.last, h.gone⟩
theorem next_plain {t : Tb} (h : t.ok) (q : Note.Q) : t.next (t.doPlain q).2 ∧ ((t.doPlain q).1.2 = false → (t.doPlain q).2 = t) ∧ ((t.doPlain q).1.2 = true → (t.doPlain q).2.doPlain q = (((t.doPlain q).1.1, false), (t.doPlain q).2)) := by
  by_cases hr : q.right = true
  · obtain ⟨x, hx⟩ : ∃ x, x = t.rs.getD q.cl Note.R.zero := ⟨_, rfl⟩
    by_cases ht : turn q.s x.s ≠ 0
    · have e : t.doPlain q = ((⟨q.cl, q.s, turn q.s x.s, 0, 0, 0⟩, false), t) := by unfold Tb.doPlain; rw [if_pos hr, ← hx, if_pos ht]
      rw [e]
      exact ⟨next_refl h, fun _ => rfl, fun h => by cases h⟩
    · by_cases hs : q.s = x.s
      · have e : t.doPlain q = ((x, false), t) := by unfold Tb.doPlain; rw [if_pos hr, ← hx, if_neg ht, if_pos hs]
        rw [e]
        exact ⟨next_refl h, fun _ => rfl, fun h => by cases h⟩
      · obtain ⟨hc, hrs, hcz⟩ := next_change h q
        by_cases hz : (t.change q).1.2 ≠ 0
        · have e : t.doPlain q = ((⟨q.cl, q.s, (t.change q).1.2, (t.change q).1.1, 0, 0⟩, false), (t.change q).2) := by unfold Tb.doPlain; rw [if_pos hr, ← hx, if_neg ht, if_neg hs, if_pos hz]
          rw [e]
          exact ⟨hc, fun _ => hcz hz, fun h => by cases h⟩
        · obtain ⟨r, hrr⟩ : ∃ r : Note.R, r = ⟨q.cl, q.s, 0, (t.change q).1.1, 0, 0⟩ := ⟨_, rfl⟩
          have e : t.doPlain q = ((r, true), { (t.change q).2 with rs := (t.change q).2.rs.set q.cl r }) := by unfold Tb.doPlain; rw [if_pos hr, ← hx, if_neg ht, if_neg hs, if_neg hz, hrr]
          have hg : ((t.change q).2.rs.set q.cl r).getD q.cl Note.R.zero = r := by
            rw [List.getD_eq_getElem?_getD, List.getElem?_set, if_pos rfl, if_pos (by rw [hc.ok.r8]; exact right_cl hr)]; rfl
          have e2 : ({ (t.change q).2 with rs := (t.change q).2.rs.set q.cl r } : Tb).doPlain q = ((r, false), { (t.change q).2 with rs := (t.change q).2.rs.set q.cl r }) := by
            have ht0 : turn q.s x.s = 0 := by
              by_cases h0 : turn q.s x.s = 0
              · exact h0
              · exact absurd h0 ht
            unfold Tb.doPlain
            rw [if_pos hr]
            show (if turn q.s (((t.change q).2.rs.set q.cl r).getD q.cl Note.R.zero).s ≠ 0 then _ else if q.s = (((t.change q).2.rs.set q.cl r).getD q.cl Note.R.zero).s then _ else _) = _
            rw [hg, show r.s = q.s by rw [hrr], turn_same ht0, if_neg (by simp), if_pos rfl]
          rw [e]
          exact ⟨next_rs hc (by rw [List.length_set]; exact hc.ok.r8), (fun h => by cases h), fun _ => e2⟩
  · have e : t.doPlain q = ((⟨q.cl, q.s, 4, 0, 0, 0⟩, false), t) := by unfold Tb.doPlain; rw [if_neg hr]
    rw [e]
    exact ⟨next_refl h, fun _ => rfl, fun h => by cases h⟩
/-- Do leaves a table right; what wasn't done changes nothing; what was done and is told again has the same answer. -/
theorem next_do {t : Tb} (h : t.ok) (q : Note.Q) : t.next (t.do q).2 ∧ ((t.do q).1.2 = false → (t.do q).2 = t) ∧ ((t.do q).1.2 = true → (t.do q).2.do q = (((t.do q).1.1, false), (t.do q).2)) := by
  by_cases hk : q.k = 3
  · have e : t.do q = ((t.doQuery q, false), t) := by unfold Tb.do; rw [if_pos hk]
    rw [e]
    exact ⟨next_refl h, fun _ => rfl, fun h => by cases h⟩
  · have e : ∀ u : Tb, u.do q = u.doPlain q := fun u => by unfold Tb.do; rw [if_neg hk]
    rw [e, e]
    exact next_plain h q

end Go.Proofs.Ytahiaifdfgkemaa

namespace Go.Proofs.Ytahiaifdfgkemaa
open Go.RowKit Go.ChangeShapes Go.Deep
set_option linter.unusedVariables false
set_option linter.unusedSimpArgs false

/-- What the walk is told of a slice of Ops that came in: for each its number, its request, and N. -/
def IsOps16 (w : World) (a : Option Addr) (len cap : Nat) : Prop :=
  (a = none ∧ len = 0 ∧ cap = 0) ∨
  ∃ x, a = some x ∧ len ≤ cap ∧ cap ≤ maxLen ∧ ∀ r, r < len → ∃ (d : Nat) (q : Note.Q) (n : Int),
    w.cell? (x.add (r * 9)) = some (.int .u8 (d : Int)) ∧ d < 256 ∧ w.cell? (x.add (r * 9 + 1)) = some (.int .u8 (q.cl : Int)) ∧ w.cell? (x.add (r * 9 + 2)) = some (.int .u32 (q.s : Int)) ∧ w.cell? (x.add (r * 9 + 3)) = some (.int .u8 (q.k : Int)) ∧ w.cell? (x.add (r * 9 + 4)) = some (.int .u8 (q.t : Int)) ∧ w.cell? (x.add (r * 9 + 5)) = some (.int .i64 q.kk) ∧ w.cell? (x.add (r * 9 + 6)) = some (.int .i64 q.w) ∧ w.cell? (x.add (r * 9 + 7)) = some (.int .u32 (q.j : Int)) ∧ q.wf ∧ w.cell? (x.add (r * 9 + 8)) = some (.int .i64 n)

set_option maxRecDepth 100000 in
set_option maxHeartbeats 2000000 in
theorem isOps16_of {H : Type} {enc : TypeId × Value → H} {w : World} {base : Nat} {held : Bool} {a : Option Addr} {len cap : Nat} {d : DataW H} {p : List MemPlace}
    (h : DataW.Trod enc Try.prog w base (fun _ => true) held 22 (.slice a len cap) d p) : IsOps16 w a len cap := by
  obtain ⟨fuel, hf⟩ := h
  rcases open_slice Try.underlying22 hf with ⟨hcs, _⟩ | ⟨x, l, c, m, n, D, Pl, hcs, _, hl, hm, hmm, _, hi⟩
  · simp [Value.cells] at hcs
    obtain ⟨rfl, rfl, rfl⟩ := hcs
    exact .inl ⟨rfl, rfl, rfl⟩
  · simp [Value.cells] at hcs
    obtain ⟨rfl, rfl, rfl⟩ := hcs
    refine .inr ⟨x, rfl, hl, hm, fun r hr => ?_⟩
    have h3 : Try.prog.cellsOf 35 = 9 := by kernel_rfl
    have h_uint8 : Try.prog.cellsOf 5 = 1 := by kernel_rfl
    have h_uint32 : Try.prog.cellsOf 30 = 1 := by kernel_rfl
    have h_int : Try.prog.cellsOf 3 = 1 := by kernel_rfl
    have h_rq : Try.prog.cellsOf 33 = 7 := by kernel_rfl
    simp only [if_true] at hmm
    obtain ⟨cs', hc, ht'⟩ := hi r (by omega)
    rw [h3] at hc
    obtain ⟨_, hcl, hat⟩ := World.cells?_some hc
    obtain ⟨xs, n', _, _, _, hxl, hfld⟩ := DataW.trod_struct Try.underlying35 ht'
    have f0 : DataW.trod enc Try.prog w base (fun _ => true) held n' 5 ((cs'.drop 0).take (Try.prog.cellsOf 5)) = xs[0]? := hfld 0 _ rfl
    have f1 : DataW.trod enc Try.prog w base (fun _ => true) held n' 33 ((cs'.drop 1).take (Try.prog.cellsOf 33)) = xs[1]? := hfld 1 _ rfl
    have f2 : DataW.trod enc Try.prog w base (fun _ => true) held n' 3 ((cs'.drop 8).take (Try.prog.cellsOf 3)) = xs[2]? := hfld 2 _ rfl
    rw [h_uint8] at f0
    rw [h_rq] at f1
    rw [h_int] at f2
    match cs', hcl with
    | [c0, c1, c2, c3, c4, c5, c6, c7, c8], _ =>
      match xs, hxl with
      | [y0, y1, y2], _ =>
        obtain ⟨d0, e0, _, wf0⟩ := DataW.trod_int Try.underlying5 (show _ = some y0 from f0)
        simp at e0
        subst e0
        have b0 := bounds_u8 wf0
        obtain ⟨n0, rfl⟩ := Int.eq_ofNat_of_zero_le (show 0 ≤ d0 by omega)
        obtain ⟨d2, e2, _, wf2⟩ := DataW.trod_int Try.underlying3 (show _ = some y2 from f2)
        simp at e2
        subst e2
        obtain ⟨zs2, n2, _, _, _, hzl, hfld2⟩ := DataW.trod_struct Try.underlying33 (show _ = some y1 from f1)
        have g0 : DataW.trod enc Try.prog w base (fun _ => true) held n2 5 ((([c1, c2, c3, c4, c5, c6, c7] : List Value).drop 0).take (Try.prog.cellsOf 5)) = zs2[0]? := hfld2 0 _ rfl
        rw [h_uint8] at g0
        have g1 : DataW.trod enc Try.prog w base (fun _ => true) held n2 30 ((([c1, c2, c3, c4, c5, c6, c7] : List Value).drop 1).take (Try.prog.cellsOf 30)) = zs2[1]? := hfld2 1 _ rfl
        rw [h_uint32] at g1
        have g2 : DataW.trod enc Try.prog w base (fun _ => true) held n2 5 ((([c1, c2, c3, c4, c5, c6, c7] : List Value).drop 2).take (Try.prog.cellsOf 5)) = zs2[2]? := hfld2 2 _ rfl
        rw [h_uint8] at g2
        have g3 : DataW.trod enc Try.prog w base (fun _ => true) held n2 5 ((([c1, c2, c3, c4, c5, c6, c7] : List Value).drop 3).take (Try.prog.cellsOf 5)) = zs2[3]? := hfld2 3 _ rfl
        rw [h_uint8] at g3
        have g4 : DataW.trod enc Try.prog w base (fun _ => true) held n2 3 ((([c1, c2, c3, c4, c5, c6, c7] : List Value).drop 4).take (Try.prog.cellsOf 3)) = zs2[4]? := hfld2 4 _ rfl
        rw [h_int] at g4
        have g5 : DataW.trod enc Try.prog w base (fun _ => true) held n2 3 ((([c1, c2, c3, c4, c5, c6, c7] : List Value).drop 5).take (Try.prog.cellsOf 3)) = zs2[5]? := hfld2 5 _ rfl
        rw [h_int] at g5
        have g6 : DataW.trod enc Try.prog w base (fun _ => true) held n2 30 ((([c1, c2, c3, c4, c5, c6, c7] : List Value).drop 6).take (Try.prog.cellsOf 30)) = zs2[6]? := hfld2 6 _ rfl
        rw [h_uint32] at g6
        match zs2, hzl with
        | [u0, u1, u2, u3, u4, u5, u6], _ =>
          obtain ⟨q0, eq0, _, wq0⟩ := DataW.trod_int Try.underlying5 (show _ = some u0 from g0)
          simp at eq0
          subst eq0
          have bq0 := bounds_u8 wq0
          obtain ⟨m0, rfl⟩ := Int.eq_ofNat_of_zero_le (show 0 ≤ q0 by omega)
          obtain ⟨q1, eq1, _, wq1⟩ := DataW.trod_int Try.underlying30 (show _ = some u1 from g1)
          simp at eq1
          subst eq1
          have bq1 := bounds_u32 wq1
          obtain ⟨m1, rfl⟩ := Int.eq_ofNat_of_zero_le (show 0 ≤ q1 by omega)
          obtain ⟨q2, eq2, _, wq2⟩ := DataW.trod_int Try.underlying5 (show _ = some u2 from g2)
          simp at eq2
          subst eq2
          have bq2 := bounds_u8 wq2
          obtain ⟨m2, rfl⟩ := Int.eq_ofNat_of_zero_le (show 0 ≤ q2 by omega)
          obtain ⟨q3, eq3, _, wq3⟩ := DataW.trod_int Try.underlying5 (show _ = some u3 from g3)
          simp at eq3
          subst eq3
          have bq3 := bounds_u8 wq3
          obtain ⟨m3, rfl⟩ := Int.eq_ofNat_of_zero_le (show 0 ≤ q3 by omega)
          obtain ⟨q4, eq4, _, wq4⟩ := DataW.trod_int Try.underlying3 (show _ = some u4 from g4)
          simp at eq4
          subst eq4
          have bq4 := bounds_i64 wq4
          obtain ⟨q5, eq5, _, wq5⟩ := DataW.trod_int Try.underlying3 (show _ = some u5 from g5)
          simp at eq5
          subst eq5
          have bq5 := bounds_i64 wq5
          obtain ⟨q6, eq6, _, wq6⟩ := DataW.trod_int Try.underlying30 (show _ = some u6 from g6)
          simp at eq6
          subst eq6
          have bq6 := bounds_u32 wq6
          obtain ⟨m6, rfl⟩ := Int.eq_ofNat_of_zero_le (show 0 ≤ q6 by omega)
          have k0 := hat 0 (by omega)
          have k1 := hat 1 (by omega)
          have k2 := hat 2 (by omega)
          have k3 := hat 3 (by omega)
          have k4 := hat 4 (by omega)
          have k5 := hat 5 (by omega)
          have k6 := hat 6 (by omega)
          have k7 := hat 7 (by omega)
          have k8 := hat 8 (by omega)
          rw [add_add] at k0 k1 k2 k3 k4 k5 k6 k7 k8
          refine ⟨n0, ⟨m0, m1, m2, m3, q4, q5, m6⟩, d2, by simpa using k0, by omega, by simpa using k1, by simpa using k2, by simpa using k3, by simpa using k4, by simpa using k5, by simpa using k6, by simpa using k7, ?_, by simpa using k8⟩
          unfold Note.Q.wf
          dsimp only
          refine ⟨by omega, by omega, by omega, by omega, by omega, by omega, by omega, by omega, by omega⟩

theorem IsOps16.bounds {w : World} {a : Option Addr} {len cap : Nat} (h : IsOps16 w a len cap) : len ≤ cap ∧ cap ≤ 9223372036854775807 := by
  rcases h with ⟨rfl, rfl, rfl⟩ | ⟨x, rfl, h1, h2, _⟩
  · exact ⟨Nat.le_refl _, by omega⟩
  · unfold maxLen at h2
    exact ⟨h1, by omega⟩
/-- The r-th Op, in any later world. -/
theorem IsOps16.at {w w' : World} {a : Option Addr} {len cap : Nat} (h : IsOps16 w a len cap) (hb : Below w.heap.size w w') {r : Nat} (hr : r < len) : ∃ (b off d : Nat) (q : Note.Q) (n : Int), a = some ⟨b, off, none⟩ ∧ d < 256 ∧ q.wf ∧ b < w.heap.size ∧
    w'.cell? ⟨b, off + r * 9, none⟩ = some (.int .u8 (d : Int)) ∧ w'.cell? ⟨b, off + r * 9 + 1, none⟩ = some (.int .u8 (q.cl : Int)) ∧ w'.cell? ⟨b, off + r * 9 + 2, none⟩ = some (.int .u32 (q.s : Int)) ∧ w'.cell? ⟨b, off + r * 9 + 3, none⟩ = some (.int .u8 (q.k : Int)) ∧ w'.cell? ⟨b, off + r * 9 + 4, none⟩ = some (.int .u8 (q.t : Int)) ∧ w'.cell? ⟨b, off + r * 9 + 5, none⟩ = some (.int .i64 q.kk) ∧ w'.cell? ⟨b, off + r * 9 + 6, none⟩ = some (.int .i64 q.w) ∧ w'.cell? ⟨b, off + r * 9 + 7, none⟩ = some (.int .u32 (q.j : Int)) ∧ w'.cell? ⟨b, off + r * 9 + 8, none⟩ = some (.int .i64 n) := by
  rcases h with ⟨_, rfl, _⟩ | ⟨x, rfl, h1, h2, h3⟩
  · omega
  · obtain ⟨d, q, n, k0, hd, k1, k2, k3, k4, k5, k6, k7, hq, k8⟩ := h3 r hr
    obtain ⟨b, off, spot⟩ := x
    have hs : spot = none := by
      obtain ⟨_, _, _, z0, _⟩ := h3 0 (by omega)
      simpa [Addr.add] using World.cell?_spot z0
    subst hs
    rw [Addr.add_lit] at k0 k1 k2 k3 k4 k5 k6 k7 k8
    have hlt : b < w.heap.size := World.block_lt_of_cell? _ _ k0
    have f : ∀ (j : Nat) (v : Value), w.cell? ⟨b, off + (r * 9 + j), none⟩ = some v → w'.cell? ⟨b, off + r * 9 + j, none⟩ = some v := fun j v hv => by
      rw [Nat.add_assoc]
      exact (hb.cell (p := ⟨b, off + (r * 9 + j), none⟩) hlt).trans hv
    exact ⟨b, off, d, q, n, rfl, hd, hq, hlt, (hb.cell (p := ⟨b, off + r * 9, none⟩) hlt).trans k0, f 1 _ k1, f 2 _ k2, f 3 _ k3, f 4 _ k4, f 5 _ k5, f 6 _ k6, f 7 _ k7, f 8 _ k8⟩

end Go.Proofs.Ytahiaifdfgkemaa

namespace Go.Proofs.Ytahiaifdfgkemaa
open Go.RowKit
set_option linter.unusedVariables false

theorem wf_row {n : Nat} (h : n < 1000000) : (Lit.int .i64 (n : Int)).wf = true := (Lit.wf_int_iff _ _).2 ⟨by show (-9223372036854775808 : Int) ≤ _; omega, by show _ ≤ (9223372036854775807 : Int); omega⟩

/-- Block b is a map that tells S of each number. -/
def SetAt (k e : TypeId) (q : IntKind) (w : World) (b n : Nat) (S : Int → Bool) : Prop :=
  ∃ D : DataW Unit, w.ownsMap Try.prog k (plainElem Try.prog e) b n D ∧ Maps.IsMap D ∧ ∀ x, (Lit.int q x).wf = true → D.atKey (.int q x) (.lit (.bool false)) = .lit (.bool (S x))

theorem SetAt.new (k e : TypeId) (q : IntKind) (w : World) : SetAt k e q (w.alloc (.map #[] 0)) w.heap.size 0 (fun _ => false) :=
  ⟨.map [], World.ownsMap_made _ _ _ _, ⟨_, rfl⟩, fun _ _ => rfl⟩

theorem SetAt.block {k e : TypeId} {q : IntKind} {w w' : World} {b n : Nat} {S : Int → Bool} (h : SetAt k e q w b n S) (hb : w'.heap[b]? = w.heap[b]?) : SetAt k e q w' b n S := by
  obtain ⟨D, ⟨es, clock, h1, h2, h3, h4⟩, hm, ha⟩ := h
  exact ⟨D, ⟨es, clock, hb.trans h1, h2, h3, h4⟩, hm, ha⟩

theorem SetAt.lt {k e : TypeId} {q : IntKind} {w : World} {b n : Nat} {S : Int → Bool} (h : SetAt k e q w b n S) : b < w.heap.size := by
  obtain ⟨D, ⟨es, clock, h1, h2, h3, h4⟩, hm, ha⟩ := h
  exact (Array.getElem?_eq_some_iff.1 h1).1

theorem plainElem_bool_inv {e : TypeId} (he : Try.prog.underlying e = some .bool) {v : Value} {z : DataW Unit × List MemPlace} (h : plainElem Try.prog e v = some z) : ∃ c, v = .bool c ∧ z = (.lit (.bool c), []) := by
  unfold plainElem at h
  rw [he] at h
  cases v <;> simp at h
  exact ⟨_, rfl, h.symm⟩

section
variable {w : World} {ops : Array Oper} {rest : List Oper} {o : Oper} {a : Act} {Q : Exit → Act → World → Prop}

theorem set_look (hg : o.guard = none) (m x : Operand) (t k e : TypeId) (q : IntKind) (hop : o.op = Op.lookup t m x false) (ht : Try.prog.underlying t = some (.map k e)) (hk : Try.prog.underlying k = some (.int q)) (he : Try.prog.underlying e = some .bool) (hz : (zeroValue e).run Try.prog w = .ok (.bool false) w)
    (b n : Nat) (S : Int → Bool) (z : Int) (hm : a.eval m = .map (some b)) (hx : a.eval x = .int q z) (hwz : (Lit.int q z).wf = true) (h : SetAt k e q w b n S)
    (hK : wpList Try.prog ops Q rest (a.put o.dst (.bool (S z))) w) : wpList Try.prog ops Q (o :: rest) a w := by
  refine wpList_plain hg fun K' hK' => ?_
  obtain ⟨D, hown, hmap, hat⟩ := h
  obtain ⟨v, ps, hrun, hv⟩ := hown.lookup (Maps.int_keyed hk) ht hz (plainElem_bool he false) (Maps.keyOf_int_mk hk hwz)
  obtain ⟨c, rfl, hc⟩ := plainElem_bool_inv he hv
  simp only [Prod.mk.injEq] at hc
  have e1 := (hat z hwz).symm.trans hc.1
  have e2 : S z = c := by
    have := e1
    simp at this
    exact this
  unfold Oper.wp
  simp [execOp, hop, hm, hx, hrun, Result.andThen]
  rw [← e2]
  exact hK' _ _ hK

theorem set_put (hg : o.guard = none) (m x v : Operand) (t k e : TypeId) (q : IntKind) (hop : o.op = Op.mapUpdate t m x v) (ht : Try.prog.underlying t = some (.map k e)) (hk : Try.prog.underlying k = some (.int q)) (he : Try.prog.underlying e = some .bool)
    (b n : Nat) (S : Int → Bool) (z : Int) (c : Bool) (hm : a.eval m = .map (some b)) (hx : a.eval x = .int q z) (hv : a.eval v = .bool c) (hwz : (Lit.int q z).wf = true) (h : SetAt k e q w b n S) (hn : n < maxLen)
    (hK : ∀ w', SetAt k e q w' b (n + 1) (fun y => if y = z then c else S y) → w.grownBy w' (some b) → wpList Try.prog ops Q rest (a.put o.dst undef) w') : wpList Try.prog ops Q (o :: rest) a w := by
  obtain ⟨D, hown, hmap, hat⟩ := h
  refine wpList_mapUpdate_own w hg m x v t hop k e (Maps.int_keyed hk) ht _ b n D hm hown hn (.int q z) (.bool c) (.int q z) hx hv (Maps.keyOf_int_mk hk hwz) (.lit (.bool c)) [] (plainElem_bool he c) ?_
  intro w' h1 h2
  refine hK w' ⟨_, h1, ?_, fun y hy => ?_⟩ h2
  · obtain ⟨es, rfl⟩ := hmap
    exact ⟨_, rfl⟩
  · by_cases e1 : y = z
    · subst e1
      rw [Maps.atKey_put_same hmap (by exact trivial)]
      show _ = DataW.lit (.bool (if y = y then c else S y))
      rw [if_pos rfl]
    · rw [Maps.atKey_put_other (by intro e2; cases e2; exact e1 rfl)]
      show _ = DataW.lit (.bool (if y = z then c else S y))
      rw [if_neg e1]
      exact hat y hy
end

end Go.Proofs.Ytahiaifdfgkemaa
