/-
  Slices of stretches that came in; appends to slices of stretches of the call's own.
-/
import Derived.Test.YtajdhnhnknmedaaRef2
import Derived.Deep.Slices
import Derived.ChangeSlices
import Derived.OpenShut
import Derived.Laws.AppendOwn
import Derived.Laws.AppendOwnNone
import Derived.Deep.RegionHeld3
namespace Go.Proofs.Ytajdhnhnknmedaa
open Go.RowKit Go.ChangeShapes Go.WideShapes Go.Deep

/-- What the walk is told of a slice of pairs that came in. -/
def IsL (k : IntKind) (w : World) (a : Option Addr) (len cap : Nat) : Prop :=
  (a = none ∧ len = 0 ∧ cap = 0) ∨
  ∃ x, a = some x ∧ len ≤ cap ∧ cap ≤ maxLen ∧ ∀ r, r < len → ∃ (d n : Int),
    w.cell? (x.add (r * 2)) = some (.int k d) ∧ (Lit.int k d).wf = true ∧ w.cell? (x.add (r * 2 + 1)) = some (.int k n) ∧ (Lit.int k n).wf = true
def IsL2 := IsL .u32
def IsL28 := IsL .u8
def IsP2 (w : World) (v : Value) : Prop := ∃ d n : Nat, v = .agg #[.int .u32 (d : Int), .int .u32 (n : Int)] ∧ d < 4294967296 ∧ n < 4294967296 ∧ w = w

theorem IsL.bounds {k : IntKind} {w : World} {a : Option Addr} {len cap : Nat} (h : IsL k w a len cap) : len ≤ cap ∧ cap ≤ 9223372036854775807 ∧ (a = none → cap = 0) := by
  rcases h with ⟨rfl, rfl, rfl⟩ | ⟨x, rfl, h1, h2, _⟩
  · exact ⟨Nat.le_refl _, by omega, fun _ => rfl⟩
  · unfold maxLen at h2
    exact ⟨h1, by omega, fun h => by cases h⟩

theorem isL2_of {H : Type} {enc : TypeId × Value → H} {w : World} {base : Nat} {held : Bool} {a : Option Addr} {len cap : Nat} {d : DataW H} {p : List MemPlace}
    (h : DataW.Trod enc Try.prog w base (fun _ => true) held 22 (.slice a len cap) d p) : IsL .u32 w a len cap := by
  obtain ⟨fuel, hf⟩ := h
  rcases open_slice Try.underlying22 hf with ⟨hcs, _⟩ | ⟨x, l, c, m, n, D, Pl, hcs, _, hl, hm, hmm, _, hi⟩
  · simp [Value.cells] at hcs
    obtain ⟨rfl, rfl, rfl⟩ := hcs
    exact .inl ⟨rfl, rfl, rfl⟩
  · simp [Value.cells] at hcs
    obtain ⟨rfl, rfl, rfl⟩ := hcs
    refine .inr ⟨x, rfl, hl, hm, fun r hr => ?_⟩
    have h3 : Try.prog.cellsOf 24 = 2 := by kernel_rfl
    have h5 : Try.prog.cellsOf 23 = 1 := by kernel_rfl
    simp only [if_true] at hmm
    obtain ⟨cs', hc, ht'⟩ := hi r (by omega)
    rw [h3] at hc
    obtain ⟨_, hcl, hat⟩ := World.cells?_some hc
    obtain ⟨xs, n', _, _, _, hxl, hfld⟩ := DataW.trod_array Try.underlying24 ht'
    have f0 := hfld 0 (by omega)
    have f1 := hfld 1 (by omega)
    rw [h5] at f0 f1
    match cs', hcl with
    | [c0, c1], _ =>
      match xs, hxl with
      | [y0, y1], _ =>
        obtain ⟨d0, e0, _, wf0⟩ := DataW.trod_int Try.underlying23 (show _ = some y0 from f0)
        obtain ⟨d1, e1, _, wf1⟩ := DataW.trod_int Try.underlying23 (show _ = some y1 from f1)
        simp at e0 e1
        subst e0
        subst e1
        have c0 := hat 0 (by omega)
        have c1 := hat 1 (by omega)
        rw [add_add] at c0 c1
        exact ⟨d0, d1, by simpa using c0, wf0, by simpa using c1, wf1⟩

theorem isL28_of {H : Type} {enc : TypeId × Value → H} {w : World} {base : Nat} {held : Bool} {a : Option Addr} {len cap : Nat} {d : DataW H} {p : List MemPlace}
    (h : DataW.Trod enc Try.prog w base (fun _ => true) held 28 (.slice a len cap) d p) : IsL .u8 w a len cap := by
  obtain ⟨fuel, hf⟩ := h
  rcases open_slice Try.underlying28 hf with ⟨hcs, _⟩ | ⟨x, l, c, m, n, D, Pl, hcs, _, hl, hm, hmm, _, hi⟩
  · simp [Value.cells] at hcs
    obtain ⟨rfl, rfl, rfl⟩ := hcs
    exact .inl ⟨rfl, rfl, rfl⟩
  · simp [Value.cells] at hcs
    obtain ⟨rfl, rfl, rfl⟩ := hcs
    refine .inr ⟨x, rfl, hl, hm, fun r hr => ?_⟩
    have h3 : Try.prog.cellsOf 29 = 2 := by kernel_rfl
    have h5 : Try.prog.cellsOf 5 = 1 := by kernel_rfl
    simp only [if_true] at hmm
    obtain ⟨cs', hc, ht'⟩ := hi r (by omega)
    rw [h3] at hc
    obtain ⟨_, hcl, hat⟩ := World.cells?_some hc
    obtain ⟨xs, n', _, _, _, hxl, hfld⟩ := DataW.trod_array Try.underlying29 ht'
    have f0 := hfld 0 (by omega)
    have f1 := hfld 1 (by omega)
    rw [h5] at f0 f1
    match cs', hcl with
    | [c0, c1], _ =>
      match xs, hxl with
      | [y0, y1], _ =>
        obtain ⟨d0, e0, _, wf0⟩ := DataW.trod_int Try.underlying5 (show _ = some y0 from f0)
        obtain ⟨d1, e1, _, wf1⟩ := DataW.trod_int Try.underlying5 (show _ = some y1 from f1)
        simp at e0 e1
        subst e0
        subst e1
        have c0 := hat 0 (by omega)
        have c1 := hat 1 (by omega)
        rw [add_add] at c0 c1
        exact ⟨d0, d1, by simpa using c0, wf0, by simpa using c1, wf1⟩

theorem okWide_arr {P : Program} {w : World} {r : Reach} {base : Nat} {t e : TypeId} {v : Value} {n : Nat} (ht : P.underlying t = some (.array n e)) (h : Value.okWide P w r base t v) : ∃ cs, v = .agg cs ∧ cs.size = P.cellsOf t := by
  simp only [Value.okWide, ht] at h
  obtain ⟨cs, h1, h2, _⟩ := h
  exact ⟨cs, h1, h2⟩

theorem isP2_of {H : Type} {enc : TypeId × Value → H} {w : World} {base b0 : Nat} {spare : Nat → Bool} {held : Bool} {r : Reach} {v : Value} {d : DataW H} {p : List MemPlace}
    (hv : Value.okWide Try.prog w r b0 24 v) (h : DataW.Trod enc Try.prog w base spare held 24 v d p) : IsP2 w v := by
  have h3 : Try.prog.cellsOf 24 = 2 := by kernel_rfl
  have h5 : Try.prog.cellsOf 23 = 1 := by kernel_rfl
  obtain ⟨cs, rfl, hsz⟩ := okWide_arr Try.underlying24 hv
  rw [h3] at hsz
  obtain ⟨fuel, hf⟩ := h
  obtain ⟨xs, n', _, _, _, hxl, hfld⟩ := DataW.trod_array Try.underlying24 hf
  have f0 := hfld 0 (by omega)
  have f1 := hfld 1 (by omega)
  rw [h5] at f0 f1
  obtain ⟨l⟩ := cs
  match l, hsz with
  | [c0, c1], _ =>
    match xs, hxl with
    | [y0, y1], _ =>
      obtain ⟨d0, e0, _, wf0⟩ := DataW.trod_int Try.underlying23 (show _ = some y0 from f0)
      obtain ⟨d1, e1, _, wf1⟩ := DataW.trod_int Try.underlying23 (show _ = some y1 from f1)
      simp [Value.cells] at e0 e1
      subst e0
      subst e1
      have b0 := bounds_u32 wf0
      have b1 := bounds_u32 wf1
      obtain ⟨n0, rfl⟩ := Int.eq_ofNat_of_zero_le (show 0 ≤ d0 by omega)
      obtain ⟨n1, rfl⟩ := Int.eq_ofNat_of_zero_le (show 0 ≤ d1 by omega)
      exact ⟨n0, n1, rfl, by omega, by omega, rfl⟩

/-- What came in, cut to its first k pairs, reads as a list. -/
theorem IsL2.rd {w : World} {a : Option Addr} {len cap : Nat} (h : IsL2 w a len cap) : ∀ k, k ≤ len → ∃ l, l.length = k ∧ Rd2 w (.slice a k cap) l ∧ Cap.fits l := by
  intro k
  induction k with
  | zero =>
    intro _
    refine ⟨[], rfl, ⟨a, cap, rfl, Nat.zero_le _, by have := h.bounds; unfold maxLen; omega, h.bounds.2.2, fun _ _ j hj => by cases hj⟩, fun j hj => by cases hj⟩
  | succ k ih =>
    intro hk
    obtain ⟨l, hl, ⟨a', cap', e, q1, q2, q3, q4⟩, hf⟩ := ih (by omega)
    simp only [Value.slice.injEq] at e
    obtain ⟨rfl, _, rfl⟩ := e
    rcases h with ⟨_, rfl, _⟩ | ⟨x, rfl, h1, h2, h3⟩
    · omega
    · obtain ⟨d, n, c0, w0, c1, w1⟩ := h3 k (by omega)
      have b0 := bounds_u32 w0
      have b1 := bounds_u32 w1
      obtain ⟨n0, rfl⟩ := Int.eq_ofNat_of_zero_le (show 0 ≤ d by omega)
      obtain ⟨n1, rfl⟩ := Int.eq_ofNat_of_zero_le (show 0 ≤ n by omega)
      refine ⟨l ++ [(n0, n1)], by simp [hl], ⟨some x, cap, by simp [hl], by simp [hl]; omega, h2, (fun h => by cases h), fun y hy j hj => ?_⟩, Cap.fits_snoc l _ hf (by simp only; omega) (by simp only; omega)⟩
      cases hy
      rw [List.length_append] at hj
      simp only [List.length_singleton] at hj
      by_cases e : j < l.length
      · have := q4 x rfl j e
        simp only [List.getD_eq_getElem?_getD] at this ⊢
        rw [List.getElem?_append_left e]
        exact this
      · obtain rfl : j = k := by omega
        have : (l ++ [(n0, n1)]).getD j (0, 0) = (n0, n1) := by simp [← hl]
        rw [this]
        exact ⟨c0, c1⟩

/-- The slice value v reads as l, and lies at the head of a block of the call's own, from base on. -/
def Own2 (w : World) (base : Nat) (v : Value) (l : List (Nat × Nat)) : Prop := w.ownsRow base 24 2 v l.length (l.flatMap pv)

theorem pv_length (l : List (Nat × Nat)) : (l.flatMap pv).length = l.length * 2 := by
  induction l with
  | nil => rfl
  | cons a r ih => rw [List.flatMap_cons, List.length_append, ih]; simp [pv]; omega

theorem pv_get (l : List (Nat × Nat)) : ∀ j, j < l.length → (l.flatMap pv)[j * 2]? = some (.int .u32 ((l.getD j (0, 0)).1 : Int)) ∧ (l.flatMap pv)[j * 2 + 1]? = some (.int .u32 ((l.getD j (0, 0)).2 : Int)) := by
  induction l with
  | nil => intro j hj; cases hj
  | cons a r ih =>
    intro j hj
    cases j with
    | zero => simp [pv]
    | succ j =>
      have := ih j (by simpa using hj)
      have e : ((a :: r).flatMap pv) = [.int .u32 (a.1 : Int), .int .u32 (a.2 : Int)] ++ r.flatMap pv := rfl
      rw [e, show (j + 1) * 2 = j * 2 + 2 by omega, show j * 2 + 2 + 1 = (j * 2 + 1) + 2 by omega]
      simpa using this

theorem Own2.rd {w : World} {base : Nat} {v : Value} {l : List (Nat × Nat)} (h : Own2 w base v l) : Rd2 w v l := by
  rcases h.2 with ⟨rfl, hn⟩ | ⟨g, cap, cur, rfl, hb, hg, h1, h2, h3, h4⟩
  · have hl : l = [] := List.eq_nil_of_length_eq_zero hn
    subst hl
    exact ⟨none, 0, rfl, Nat.le_refl _, Nat.zero_le _, fun _ => rfl, fun _ h => by cases h⟩
  · refine ⟨_, cap, rfl, h1, h2, (fun h => by cases h), fun x hx j hj => ?_⟩
    cases hx
    have hp := pv_get l j hj
    exact ⟨World.ownsRow.cells h (g := g) rfl (j * 2) _ hp.1, World.ownsRow.cells h (g := g) rfl (j * 2 + 1) _ hp.2⟩

theorem Own2.empty {w : World} {base g : Nat} (hg : w.heap[g]? = some (.cells #[] 24 (0, 0))) (hb : base ≤ g) : Own2 w base (.slice (some ⟨g, 0, none⟩) 0 0) [] :=
  ⟨rfl, .inr ⟨g, 0, #[], rfl, hb, hg, Nat.le_refl _, Nat.zero_le _, rfl, rfl⟩⟩

theorem Own2.nil (w : World) (base : Nat) : Own2 w base (.slice none 0 0) [] := World.ownsRow_nil _ _ _ _

theorem Own2.lt {w : World} {base : Nat} {v : Value} {l : List (Nat × Nat)} (h : Own2 w base v l) : ∀ k, v.ownBlock = some k → base ≤ k ∧ k < w.heap.size := World.ownsRow.lt h

theorem Own2.to {w w' : World} {base : Nat} {v : Value} {l : List (Nat × Nat)} (h : Own2 w base v l) (hc : ∀ k, v.ownBlock = some k → w'.heap[k]? = w.heap[k]?) : Own2 w' base v l := by
  refine ⟨h.1, ?_⟩
  rcases h.2 with hn | ⟨g, cap, cur, rfl, hb, hgg, rest⟩
  · exact .inl hn
  · exact .inr ⟨g, cap, cur, rfl, hb, by rw [hc g rfl]; exact hgg, rest⟩

theorem Own2.below {w w' : World} {base : Nat} {v : Value} {l : List (Nat × Nat)} (h : Own2 w base v l) (hb : Below w.heap.size w w') : Own2 w' base v l :=
  h.to fun k hk => hb.block k (h.lt k hk).2

/-- A new block of one stretch. -/
theorem Rd2.one {w : World} {g a b : Nat} (hg : w.heap[g]? = some (.cells #[.int .u32 (a : Int), .int .u32 (b : Int)] 24 (0, 0))) : Rd2 w (.slice (some ⟨g, 0, none⟩) 1 1) [(a, b)] := by
  refine ⟨_, 1, rfl, Nat.le_refl _, by unfold maxLen; omega, (fun h => by cases h), fun x hx j hj => ?_⟩
  cases hx
  have hj2 : j = 0 := by simpa using hj
  subst hj2
  constructor <;> (rw [Addr.add_lit, cell_of_row _ _ _ _ _ _ hg]; rfl)

theorem Try.infoP2 : (Try.prog.info? 24).map (fun i => (i.zero, i.size, i.bytes)) = some (some (.agg #[.int .u32 0, .int .u32 0]), 2, 8) := by kernel_rfl

theorem grown_below {w w' : World} {v : Value} {base : Nat} (h : w.grownBy w' v.ownBlock) (hb : base ≤ w.heap.size) (hv : ∀ k, v.ownBlock = some k → base ≤ k) : Below base w w' :=
  ⟨h.os, h.tape, h.output, h.size, fun k hk => h.block k (by omega) fun e => by have := hv k e.symm; omega⟩

/-- APPEND onto a slice of stretches of the call's own. -/
theorem run_app2 (w : World) (ty : TypeId) (base : Nat) (v u : Value) (l m : List (Nat × Nat)) (hown : Own2 w base v l) (hrd : Rd2 w u m) (hlen : l.length + m.length ≤ 1000000) (hbase : base ≤ w.heap.size) :
    ∃ v' w', (Builtin.append_ #[22, 22] ty #[v, u]).run Try.prog w = .ok v' w' ∧ Own2 w' base v' (l ++ m) ∧ w.grownBy w' v.ownBlock := by
  obtain ⟨i, hi, hz0, hz1, hz2⟩ := info_parts Try.infoP2
  obtain ⟨a, cap, rfl, h1, h2, h3, h4⟩ := hrd
  cases a with
  | none =>
    obtain rfl : cap = 0 := h3 rfl
    have hm0 : m = [] := List.eq_nil_of_length_eq_zero (by omega)
    subst hm0
    have hr := run_append_owned_none (P := Try.prog) (w := w) base 22 ty 24 i 2 Try.underlying22 hi _ _ _ hown
    exact ⟨v, w, hr, by rw [List.append_nil]; exact hown, ⟨rfl, rfl, rfl, Nat.le_refl _, fun _ _ _ => rfl⟩⟩
  | some x =>
    obtain ⟨v', w', hr, r1, r2, _⟩ := run_append_own (P := Try.prog) w base 22 ty 24 i (.agg #[.int .u32 0, .int .u32 0]) 2 8 Try.underlying22 hi hz0 hz1 hz2 rfl (by decide) v l.length _ hown x m.length cap (m.flatMap pv) (pv_length m) (fun j y hj => by
      have hjl : j < m.length * 2 := by
        rw [← pv_length m]
        exact (List.getElem?_eq_some_iff.1 hj).1
      have hp := pv_get m (j / 2) (by omega)
      have hc := h4 x rfl (j / 2) (by omega)
      rcases Nat.mod_two_eq_zero_or_one j with e | e
      · rw [show j / 2 * 2 = j by omega] at hp hc
        rw [hp.1] at hj
        cases hj
        exact hc.1
      · rw [show j / 2 * 2 + 1 = j by omega] at hp hc
        rw [hp.2] at hj
        cases hj
        exact hc.2) (fun y hy => by
        simp only [List.mem_flatMap, pv, List.mem_cons, List.not_mem_nil, or_false] at hy
        obtain ⟨s, _, rfl | rfl⟩ := hy <;> rfl) (by unfold maxLen; omega) (by omega) hbase
    refine ⟨v', w', hr, ?_, r2⟩
    unfold Own2
    rw [List.length_append, List.flatMap_append]
    exact r1

/-- The same as a step of the walk. -/
theorem app2 {w : World} {ops : Array Oper} {rest : List Oper} {o : Oper} {a : Act} {Q : Exit → Act → World → Prop} (hgd : o.guard = none) (s x : Operand)
    (ho : o.op = .call { callee := .builtin .append, args := #[s, x], argTypes := #[22, 22] })
    (base : Nat) (v u : Value) (l m : List (Nat × Nat)) (hs : a.eval s = v) (hx : a.eval x = u) (hown : Own2 w base v l) (hrd : Rd2 w u m) (hlen : l.length + m.length ≤ 1000000) (hbase : base ≤ w.heap.size)
    (h : ∀ v' w', Own2 w' base v' (l ++ m) → w.grownBy w' v.ownBlock → wpList Try.prog ops Q rest (a.put o.dst v') w') :
    wpList Try.prog ops Q (o :: rest) a w := by
  refine wpList_plain hgd fun K hK => ?_
  obtain ⟨v', w', hrun, h1, h2⟩ := run_app2 w o.type base v u l m hown hrd hlen hbase
  unfold Oper.wp execOp
  simp only [ho, resolve, invoke, builtin, Sem.run_bind, Sem.run_pure, Result.andThen_ok, List.map_toArray, List.map_cons, List.map_nil, hs, hx, hrun]
  exact hK _ _ (h v' w' h1 h2)

/-- The same as a step of a region that draws its order, not guarded, or guarded by what is so. -/
theorem step_app2 {ops : Array Oper} {o : Oper} {a : Act} {w : World} {K : Act → World → Prop} {Q : Exit → Act → World → Prop} {E : Prop}
    (hg : Region.wanted o (yielded ops a.tmps) = true) (s x : Operand) (hop : o.op = Op.call { callee := Callee.builtin Builtin.append, args := #[s, x], argTypes := #[22, 22] })
    (base : Nat) (v u : Value) (l m : List (Nat × Nat)) (hs : a.eval s = v) (hx : a.eval x = u) (hown : Own2 w base v l) (hrd : Rd2 w u m) (hlen : l.length + m.length ≤ 1000000) (hbase : base ≤ w.heap.size)
    (hK : ∀ v' w', Own2 w' base v' (l ++ m) → w.grownBy w' v.ownBlock → K (a.put o.dst v') w') :
    if Region.wanted o (yielded ops a.tmps) = true then Oper.wp Try.prog o a w K Q else E := by
  rw [if_pos hg]
  obtain ⟨v', w', hrun, h1, h2⟩ := run_app2 w o.type base v u l m hown hrd hlen hbase
  unfold Oper.wp
  simp [execOp, hop, resolve, invoke, builtin, hs, hx, hrun, Result.andThen]
  exact hK v' w' h1 h2

theorem acell {w : World} {o : Obj} {b i : Nat} {v : Value} (h : b < w.heap.size) (hc : w.cell? ⟨b, i, none⟩ = some v) : (w.alloc o).cell? ⟨b, i, none⟩ = some v :=
  (((Below.refl w.heap.size w).alloc (Nat.le_refl _) o).cell (p := ⟨b, i, none⟩) h).trans hc

theorem asize {w : World} {o : Obj} {b : Nat} (h : b < w.heap.size) : b < (w.alloc o).heap.size := by simp; omega

theorem undrew {w w' : World} {r : Option Nat} (h : w.drew.grownBy w' r) : w.grownBy w' r := ⟨h.os, h.tape, h.output, h.size, h.block⟩

theorem step_keep0 {base : Nat} {wc wd we : World} {v : Value} {C : Option Obj} (hb : Below base wc wd) (h : base < wd.heap.size) (hv : ∀ k, v.ownBlock = some k → base + 1 ≤ k) (hg : wd.grownBy we v.ownBlock)
    (hbx : wd.heap[base]? = C) : Below base wc we ∧ we.heap[base]? = C ∧ wd.heap.size ≤ we.heap.size := by
  refine ⟨hb.trans (grown_below hg (by omega) (fun k hk => by have := hv k hk; omega)), ?_, hg.size⟩
  rw [hg.block _ (by omega) (fun e => by have := hv _ e.symm; omega), ← hbx]

/-- Behind an append into a slice that lies above the block 'base': that block is as it was. -/
theorem step_keep {base : Nat} {wc wd we : World} {o : Obj} {v : Value} {C : Option Obj} (hb : Below base wc wd) (hc : base ≤ wc.heap.size) (h : base < wd.heap.size) (hv : ∀ k, v.ownBlock = some k → base + 1 ≤ k) (hg : (wd.alloc o).grownBy we v.ownBlock)
    (hbx : wd.heap[base]? = C) : Below base wc we ∧ we.heap[base]? = C ∧ wd.heap.size + 1 ≤ we.heap.size := by
  have hs : (wd.alloc o).heap.size = wd.heap.size + 1 := by simp
  refine ⟨(hb.alloc (Nat.le_trans hc hb.size) o).trans (grown_below hg (by omega) (fun k hk => by have := hv k hk; omega)), ?_, by have := hg.size; omega⟩
  rw [hg.block _ (by omega) (fun e => by have := hv _ e.symm; omega), ← hbx]
  exact Below.heap_alloc _ _ _ h

end Go.Proofs.Ytajdhnhnknmedaa
