/-
  Layer 10: an end that ticks on and on; a row of packets, one by one.
-/
import Derived.Test.YtjpojlkdogaalaaTalkW
import Derived.Test.YtjpojlkdogaalaaSame
import Derived.Deep.MidRow
namespace Go.Proofs.Ytjpojlkdogaalaa
open Go.RowKit
set_option linter.unusedVariables false
set_option linter.unusedSimpArgs false

theorem quiet_first {P : Program} {f : FuncId} {args : Array Value} {w : World} {n : Nat} {v : Value} (h : Calls P f args (w.drewN n) fun e w' => e = .returned v ∧ w.drewN n = w') :
    Calls P f args (w.drewN n) fun e w' => e = .returned v ∧ ∃ m, w' = w.drewN m :=
  h.mono fun _ _ h => ⟨h.1, n, h.2.symm⟩

theorem Rd.drewN {w : World} {v : Value} {l : List UInt8} (h : Rd w v l) (n : Nat) : Rd (w.drewN n) v l := h

/-- Behind i ticks: N things said, k of them answered, no tick ahead of that. -/
def tq (ts : List (List UInt8)) (N k i : Nat) : Tk := ⟨1, 2, 3, ((ts.take N).take k).map (fun t => ⟨t, 0⟩) ++ ((ts.take N).drop k).map (fun t => ⟨t, 2 * (i / 2)⟩), k, 0, i⟩

theorem tq_zero (ts : List (List UInt8)) (N k : Nat) : tl 1 2 3 ts N k = tq ts N k 0 := by
  unfold tl tq
  congr 1
  rw [show (2 : Nat) * (0 / 2) = 0 from rfl, ← List.map_append, List.take_append_drop]

theorem tq_all (ts : List (List UInt8)) (N k i : Nat) (h : N ≤ ts.length) : (tq ts N k i).all.length = N := by
  simp only [tq, List.length_append, List.length_map, List.length_take, List.length_drop]; omega

theorem tq_l (ts : List (List UInt8)) (N k i : Nat) (h : N ≤ ts.length) (hk : k ≤ N) : (tq ts N k i).l = ((ts.take N).drop k).map (fun t => ⟨t, 2 * (i / 2)⟩) := by
  unfold Tk.l tq
  rw [List.drop_append]
  simp only [List.length_map, List.length_take]
  rw [List.drop_eq_nil_of_le (by simp; omega), List.nil_append, show k - min k (min N ts.length) = 0 by omega, List.drop_zero]

theorem tq_len (ts : List (List UInt8)) (N k i : Nat) (h : N ≤ ts.length) (hk : k ≤ N) : (tq ts N k i).l.length = N - k := by
  rw [tq_l ts N k i h hk]
  simp only [List.length_map, List.length_drop, List.length_take]; omega

theorem tq_due (ts : List (List UInt8)) (N k i : Nat) (h : N ≤ ts.length) (hk : k ≤ N) : (tq ts N k i).tock.due = decide (i % 2 = 1 ∧ k < N) := by
  have e : (tq ts N k i).tock.l = ((ts.take N).drop k).map (fun t => ⟨t, 2 * (i / 2)⟩) := tq_l ts N k i h hk
  unfold Tk.due
  rw [e]
  cases hd : (ts.take N).drop k with
  | nil =>
    have := congrArg List.length hd
    simp only [List.length_drop, List.length_take, List.length_nil] at this
    rw [List.map_nil, decide_eq_false (by omega)]
  | cons t r =>
    have := congrArg List.length hd
    simp only [List.length_drop, List.length_take, List.length_cons] at this
    rw [List.map_cons]
    show decide (2 * (i / 2) + 2 ≤ i + 1) = _
    apply decide_eq_decide.2
    omega

theorem tell_parts (P Q : List Th) (k m : Nat) (hp : P.length = k) (hq : Q.length = m) (f : Th → Th) : (P ++ Q).take k ++ (((P ++ Q).drop k).take m).map f ++ (P ++ Q).drop (k + m) = P ++ Q.map f := by
  subst hp hq
  rw [List.take_left, List.drop_left, List.take_of_length_le (Nat.le_refl _), List.drop_eq_nil_of_le (by simp), List.append_nil]

theorem tq_tick (ts : List (List UInt8)) (N k i : Nat) (h : N ≤ ts.length) (hk : k ≤ N) : (tq ts N k i).tick = tq ts N k (i + 1) := by
  unfold Tk.tick
  rw [tq_due ts N k i h hk]
  by_cases hp : i % 2 = 1 ∧ k < N
  · rw [if_pos (decide_eq_true hp), tq_len ts N k i h hk]
    have e2 : 2 * ((i + 1) / 2) = i + 1 := by omega
    unfold Tk.tell Tk.tock tq
    simp only [e2]
    congr 1
    rw [tell_parts _ _ k (N - k) (by simp; omega) (by simp; omega), List.map_map]
    rfl
  · rw [if_neg (by simpa using hp)]
    unfold Tk.tock tq
    simp only
    congr 1
    by_cases h2 : k < N
    · rw [show 2 * ((i + 1) / 2) = 2 * (i / 2) by omega]
    · rw [show (ts.take N).drop k = [] from List.drop_eq_nil_of_le (by simp; omega)]
      rfl

theorem tq_nth (ts : List (List UInt8)) (N k i j : Nat) (h : N ≤ ts.length) (hk : k ≤ N) (hj : j < N - k) (t : List UInt8) (ht : ts[k + j]? = some t) : (tq ts N k i).nth j = ⟨1, 2, 3, k + j + 1, 0, false, t⟩ := by
  unfold Tk.nth
  rw [tq_l ts N k i h hk, List.getD_eq_getElem?_getD, List.getElem?_map, List.getElem?_drop, List.getElem?_take, if_pos (by omega), ht]
  rfl

theorem tq_odd (ts : List (List UInt8)) (N k i : Nat) (h : N ≤ ts.length) (hk : k ≤ N) (hi : i % 2 = 1) : (tq ts N k i).outs = (tq ts N k i).packs (N - k) := by
  unfold Tk.outs
  rw [tq_due ts N k i h hk, tq_len ts N k i h hk]
  by_cases hp : k < N
  · rw [if_pos (decide_eq_true ⟨hi, hp⟩)]
  · rw [if_neg (by simp; omega), show N - k = 0 by omega]
    rfl

theorem tq_even (ts : List (List UInt8)) (N k i : Nat) (h : N ≤ ts.length) (hk : k ≤ N) (hi : i % 2 = 0) : (tq ts N k i).outs = [] := by
  unfold Tk.outs
  rw [tq_due ts N k i h hk, if_neg (by simp; omega)]

/-- One packet of the row. -/
theorem PkRow.at {w : World} {base : Nat} {a : Option Addr} {n c : Nat} {ks : List Pk} (h : PkRow w base (.slice a n c) ks) {j : Nat} {k : Pk} (hk : ks[j]? = some k) :
    ∃ g va vc, a = some ⟨g, 0, none⟩ ∧ g < w.heap.size ∧ (n : Int) ≤ (c : Int) ∧ c ≤ 9223372036854775807 ∧ w.rangeAt g (j * 7) (k.cells (.slice va k.data.length vc)) ∧ Own w base (.slice va k.data.length vc) k.data := by
  obtain ⟨PF, h1, h2, h3⟩ := h
  have hj : j < PF.length := by
    have := (List.getElem?_eq_some_iff.1 hk).1
    rw [h2, List.length_map] at this
    exact this
  obtain ⟨x, hx⟩ : ∃ x, PF[j]? = some x := ⟨_, List.getElem?_eq_getElem hj⟩
  have hxk : x.1 = k := by
    rw [h2, List.getElem?_map, hx] at hk
    simpa using hk
  have ho := h3 x (List.mem_of_getElem? hx)
  obtain ⟨va, vc, ev⟩ := rd_sl ho.rd
  rcases owns_shape h1 with ⟨e1, e2⟩ | ⟨g, cap, e1, _, hg, hc1, hc2⟩
  · omega
  · simp only [Value.slice.injEq] at e1
    obtain ⟨rfl, rfl, rfl⟩ := e1
    subst hxk
    refine ⟨g, va, vc, rfl, hg, by omega, hc2, fun i v hv => ?_, by rw [ev] at ho; exact ho⟩
    have hi : i < 7 := by
      have := (List.getElem?_eq_some_iff.1 hv).1
      simpa [Pk.cells] using this
    have e := pcells_get PF j i x hx hi
    unfold pcells at e
    rw [ev, hv] at e
    have := World.ownsRow.cells h1 (g := g) rfl (j * 7 + i) v e
    rw [Addr.add_lit, Nat.zero_add] at this
    exact this

end Go.Proofs.Ytjpojlkdogaalaa
