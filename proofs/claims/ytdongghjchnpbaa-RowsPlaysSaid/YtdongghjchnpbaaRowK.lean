/-
  held, taken, open: iterators, known by their contracts.
-/
import Derived.Test.YtdongghjchnpbaaRowIo
import Derived.Test.YtdongghjchnpbaaRowIh
import Derived.Test.YtdongghjchnpbaaRowIt
import Derived.Test.YtdongghjchnpbaaRowJ
namespace Go.Proofs.Ytdongghjchnpbaa
open Go.RowKit Go.Shelf
set_option linter.unusedVariables false

/-- The function value goes through just these nodes. -/
def Goes (n0 lo hi : Nat) (xs : List Nat) (w : World) (lb : Array Value) : Prop :=
  ∀ n, SeqStopsK Fence.wide n Try.prog 84 lb (fun x : Nat => #[Value.int .i64 x]) (Keeps (Apart n0 lo hi)) (fun ys => ys = xs) (fun pre => pre <+: xs) 16 w

theorem Mx.at_len (m : Mx) (p : Nat → Bool) : (m.at p).length ≤ m.n := by
  have := List.length_filter_le p (List.range m.n)
  rw [List.length_range] at this
  exact this

theorem Mx.at_mem {m : Mx} {p : Nat → Bool} {k : Nat} : k ∈ m.at p ↔ k < m.n ∧ p k = true := by
  unfold Mx.at
  rw [List.mem_filter, List.mem_range]

/-- And a round is told that each is one of sixteen. -/
def GoesF (n0 lo hi : Nat) (xs : List Nat) (w : World) (lb : Array Value) : Prop :=
  ∀ n, SeqStopsK Fence.wide n Try.prog 84 lb (fun x : Fin 16 => #[Value.int .i64 (x.val : Nat)]) (Keeps (Apart n0 lo hi)) (fun ys => ys = xs.map nd) (fun pre => pre <+: xs.map nd) 16 w

theorem GoesF.goes {n0 lo hi : Nat} {xs : List Nat} {w : World} {lb : Array Value} (h : GoesF n0 lo hi xs w lb) (hx : ∀ k ∈ xs, k < 16) : Goes n0 lo hi xs w lb := fun n l J Jx W hW hJ hJx hY h0 => by
  refine (h n l (fun pre W => J (pre.map Fin.val) W) (fun pre W => Jx (pre.map Fin.val) W) W hW (fun s W W' row hs hg hr => hJ _ W W' row hs hg hr) (fun s W W' row hs hg hr => hJx _ W W' row hs hg hr) (fun pre x W hs hl => ?_) h0).mono ?_
  · refine (hY (pre.map Fin.val) x.val W hs (by rw [List.length_map]; exact hl)).mono ?_
    intro e W' h
    simpa using h
  · rintro e W' ⟨he, ⟨xs', rfl, hj⟩ | ⟨pre, hp, hj⟩⟩
    · exact ⟨he, .inl ⟨_, rfl, by rw [nd_map hx] at hj; exact hj⟩⟩
    · exact ⟨he, .inr ⟨_, by have := hp.map Fin.val; rw [nd_map hx] at this; exact this, hj⟩⟩

theorem at_lt {m : Mx} {p : Nat → Bool} (hn : m.n ≤ 16) : ∀ k ∈ m.at p, k < 16 := fun k hk => by have := (Mx.at_mem.1 hk).1; omega

theorem where_call (w : World) (b row K : Nat) (lb : Array Value) :
    Calls Try.prog 69 #[.pointer (some ⟨b, 0, none⟩), .int .i64 row, .func (.func K) #[] lb] w fun e w' => e = .returned (.func (.func 84) #[] #[.pointer (some ⟨w.heap.size, 0, none⟩), .pointer (some ⟨w.heap.size + 2, 0, none⟩), .pointer (some ⟨w.heap.size + 1, 0, none⟩)]) ∧
      w' = ((w.alloc (.cells #[.pointer (some ⟨b, 0, none⟩)] 24)).alloc (.cells #[.int .i64 row] 3)).alloc (.cells #[.func (.func K) #[] lb] 128) := by
  go_enter Try.func69, Try.ntmps69
  go_wp2
  go_ret
  exact ⟨rfl, rfl⟩

theorem held_seqF (w : World) (n0 b row j : Nat) (m : Mx) (h : MxAt w b m) (hrow : row < m.r) (hb : b < n0) (hn0 : n0 ≤ w.heap.size) :
    Calls Try.prog 60 #[.pointer (some ⟨b, 0, none⟩), .int .i64 row, .int .u32 (j : Nat)] w fun e w' => ∃ lb, e = .returned (.func (.func 84) #[] lb) ∧ Below w.heap.size w w' ∧ GoesF n0 w.heap.size w'.heap.size (m.at fun k => m.c (16 * row + k) == j) w' lb := by
  have HH := hid h
  clear h
  go_enter Try.func60, Try.ntmps60
  go_wp2_with fail
  refine (where_call (w.alloc (.cells #[.int .u32 (j : Nat)] 33)) b row 72 #[.pointer (some ⟨w.heap.size, 0, none⟩)]).mono ?_
  rintro e w' ⟨rfl, hw'⟩
  have HW := hid hw'
  clear hw'
  go_wp2
  go_ret
  have hw' := HW.out
  have B0 := Boxed.new w 33 (.int .u32 (j : Nat))
  have hs1 : (w.alloc (.cells #[.int .u32 (j : Nat)] 33)).heap.size = w.heap.size + 1 := World.size_alloc _ _
  generalize hw1 : w.alloc (.cells #[.int .u32 (j : Nat)] 33) = w1 at *
  have A1 := Boxed.new w1 24 (.pointer (some ⟨b, 0, none⟩))
  have hs2 : (w1.alloc (.cells #[.pointer (some ⟨b, 0, none⟩)] 24)).heap.size = w1.heap.size + 1 := World.size_alloc _ _
  generalize hw2 : w1.alloc (.cells #[.pointer (some ⟨b, 0, none⟩)] 24) = w2 at *
  have A3 := Boxed.new w2 3 (.int .i64 row)
  have hs3 : (w2.alloc (.cells #[.int .i64 row] 3)).heap.size = w2.heap.size + 1 := World.size_alloc _ _
  generalize hw3 : w2.alloc (.cells #[.int .i64 row] 3) = w3 at *
  have A2 := Boxed.new w3 128 (.func (.func 72) #[] #[.pointer (some ⟨w.heap.size, 0, none⟩)])
  have hs4 : (w3.alloc (.cells #[.func (.func 72) #[] #[.pointer (some ⟨w.heap.size, 0, none⟩)]] 128)).heap.size = w3.heap.size + 1 := World.size_alloc _ _
  have hb1 : Below w.heap.size w w1 := by rw [← hw1]; exact (Below.refl _ _).alloc (Nat.le_refl _) _
  have hb2 : Below w.heap.size w w2 := by rw [← hw2]; exact hb1.alloc (by omega) _
  have hb3 : Below w.heap.size w w3 := by rw [← hw3]; exact hb2.alloc (by omega) _
  have hb4 : Below w.heap.size w w' := by rw [hw']; exact hb3.alloc (by omega) _
  have C0 : Boxed w' w.heap.size 33 (.int .u32 (j : Nat)) := by
    rw [hw', ← hw3, ← hw2]
    rw [← hw3, ← hw2] at hs4
    exact ((B0.alloc _).alloc _).alloc _
  have C1 : Boxed w' w1.heap.size 24 (.pointer (some ⟨b, 0, none⟩)) := by
    rw [hw', ← hw3]
    exact (A1.alloc _).alloc _
  have C3 : Boxed w' w2.heap.size 3 (.int .i64 row) := by
    rw [hw']
    exact A3.alloc _
  have C2 := A2
  rw [← hw'] at C2
  rw [← hw'] at hs4
  refine ⟨_, rfl, hb4, fun n => ?_⟩
  rw [show w.heap.size + 1 + 2 = w3.heap.size by omega, show w.heap.size + 1 + 1 = w2.heap.size by omega, show w.heap.size + 1 = w1.heap.size by omega]
  refine where_held n _ _ _ w.heap.size n0 w.heap.size w'.heap.size b row m _ w' (HH.out.below hb4 (by omega)) hrow hb C1 C2 C3 (by omega) (by omega) (by omega) ?_
  intro W k hK hk
  exact held_one W w.heap.size k (m.c (16 * row + k)) j (show Boxed W _ _ _ from hK.block' C0 (apart_in (Nat.le_refl _) (by omega))).cell

theorem taken_seqF (w : World) (n0 b row : Nat) (m : Mx) (h : MxAt w b m) (hrow : row < m.r) (hb : b < n0) (hn0 : n0 ≤ w.heap.size) :
    Calls Try.prog 62 #[.pointer (some ⟨b, 0, none⟩), .int .i64 row] w fun e w' => ∃ lb, e = .returned (.func (.func 84) #[] lb) ∧ Below w.heap.size w w' ∧ GoesF n0 w.heap.size w'.heap.size (m.at fun k => m.c (16 * row + k) != 0) w' lb := by
  have HH := hid h
  clear h
  go_enter Try.func62, Try.ntmps62
  go_wp2_with fail
  refine (where_call w b row 75 #[]).mono ?_
  rintro e w' ⟨rfl, hw'⟩
  have HW := hid hw'
  clear hw'
  go_wp2
  go_ret
  have hw' := HW.out
  have A1 := Boxed.new w 24 (.pointer (some ⟨b, 0, none⟩))
  have hs2 : (w.alloc (.cells #[.pointer (some ⟨b, 0, none⟩)] 24)).heap.size = w.heap.size + 1 := World.size_alloc _ _
  generalize hw2 : w.alloc (.cells #[.pointer (some ⟨b, 0, none⟩)] 24) = w2 at *
  have A3 := Boxed.new w2 3 (.int .i64 row)
  have hs3 : (w2.alloc (.cells #[.int .i64 row] 3)).heap.size = w2.heap.size + 1 := World.size_alloc _ _
  generalize hw3 : w2.alloc (.cells #[.int .i64 row] 3) = w3 at *
  have A2 := Boxed.new w3 128 (.func (.func 75) #[] #[])
  have hs4 : (w3.alloc (.cells #[.func (.func 75) #[] #[]] 128)).heap.size = w3.heap.size + 1 := World.size_alloc _ _
  have hb2 : Below w.heap.size w w2 := by rw [← hw2]; exact (Below.refl _ _).alloc (by omega) _
  have hb3 : Below w.heap.size w w3 := by rw [← hw3]; exact hb2.alloc (by omega) _
  have hb4 : Below w.heap.size w w' := by rw [hw']; exact hb3.alloc (by omega) _
  have C1 : Boxed w' w.heap.size 24 (.pointer (some ⟨b, 0, none⟩)) := by
    rw [hw', ← hw3]
    exact (A1.alloc _).alloc _
  have C3 : Boxed w' w2.heap.size 3 (.int .i64 row) := by
    rw [hw']
    exact A3.alloc _
  have C2 := A2
  rw [← hw'] at C2
  rw [← hw'] at hs4
  refine ⟨_, rfl, hb4, fun n => ?_⟩
  rw [show w.heap.size + 2 = w3.heap.size by omega, show w.heap.size + 1 = w2.heap.size by omega]
  refine where_taken n _ _ _ n0 w.heap.size w'.heap.size b row m _ w' (HH.out.below hb4 (by omega)) hrow hb C1 C2 C3 (by omega) (by omega) (by omega) ?_
  intro W k hK hk
  exact taken_one W k (m.c (16 * row + k))

theorem open_seqF (w : World) (n0 b row : Nat) (m : Mx) (h : MxAt w b m) (hrow : row < m.r) (hb : b < n0) (hn0 : n0 ≤ w.heap.size) :
    Calls Try.prog 58 #[.pointer (some ⟨b, 0, none⟩), .int .i64 row] w fun e w' => ∃ lb, e = .returned (.func (.func 84) #[] lb) ∧ Below w.heap.size w w' ∧ GoesF n0 w.heap.size w'.heap.size (m.at fun k => m.c (16 * row + k) == 0 && !m.d k) w' lb := by
  have HH := hid h
  clear h
  go_enter Try.func58, Try.ntmps58
  go_wp2_with fail
  refine (where_call (w.alloc (.cells #[.pointer (some ⟨b, 0, none⟩)] 24)) b row 70 #[.pointer (some ⟨w.heap.size, 0, none⟩)]).mono ?_
  rintro e w' ⟨rfl, hw'⟩
  have HW := hid hw'
  clear hw'
  go_wp2
  go_ret
  have hw' := HW.out
  have B0 := Boxed.new w 24 (.pointer (some ⟨b, 0, none⟩))
  have hs1 : (w.alloc (.cells #[.pointer (some ⟨b, 0, none⟩)] 24)).heap.size = w.heap.size + 1 := World.size_alloc _ _
  generalize hw1 : w.alloc (.cells #[.pointer (some ⟨b, 0, none⟩)] 24) = w1 at *
  have A1 := Boxed.new w1 24 (.pointer (some ⟨b, 0, none⟩))
  have hs2 : (w1.alloc (.cells #[.pointer (some ⟨b, 0, none⟩)] 24)).heap.size = w1.heap.size + 1 := World.size_alloc _ _
  generalize hw2 : w1.alloc (.cells #[.pointer (some ⟨b, 0, none⟩)] 24) = w2 at *
  have A3 := Boxed.new w2 3 (.int .i64 row)
  have hs3 : (w2.alloc (.cells #[.int .i64 row] 3)).heap.size = w2.heap.size + 1 := World.size_alloc _ _
  generalize hw3 : w2.alloc (.cells #[.int .i64 row] 3) = w3 at *
  have A2 := Boxed.new w3 128 (.func (.func 70) #[] #[.pointer (some ⟨w.heap.size, 0, none⟩)])
  have hs4 : (w3.alloc (.cells #[.func (.func 70) #[] #[.pointer (some ⟨w.heap.size, 0, none⟩)]] 128)).heap.size = w3.heap.size + 1 := World.size_alloc _ _
  have hb1 : Below w.heap.size w w1 := by rw [← hw1]; exact (Below.refl _ _).alloc (Nat.le_refl _) _
  have hb2 : Below w.heap.size w w2 := by rw [← hw2]; exact hb1.alloc (by omega) _
  have hb3 : Below w.heap.size w w3 := by rw [← hw3]; exact hb2.alloc (by omega) _
  have hb4 : Below w.heap.size w w' := by rw [hw']; exact hb3.alloc (by omega) _
  have C0 : Boxed w' w.heap.size 24 (.pointer (some ⟨b, 0, none⟩)) := by
    rw [hw', ← hw3, ← hw2]
    exact ((B0.alloc _).alloc _).alloc _
  have C1 : Boxed w' w1.heap.size 24 (.pointer (some ⟨b, 0, none⟩)) := by
    rw [hw', ← hw3]
    exact (A1.alloc _).alloc _
  have C3 : Boxed w' w2.heap.size 3 (.int .i64 row) := by
    rw [hw']
    exact A3.alloc _
  have C2 := A2
  rw [← hw'] at C2
  rw [← hw'] at hs4
  refine ⟨_, rfl, hb4, fun n => ?_⟩
  rw [show w.heap.size + 1 + 2 = w3.heap.size by omega, show w.heap.size + 1 + 1 = w2.heap.size by omega, show w.heap.size + 1 = w1.heap.size by omega]
  refine where_open n _ _ _ w.heap.size n0 w.heap.size w'.heap.size b row m _ w' (HH.out.below hb4 (by omega)) hrow hb C1 C2 C3 (by omega) (by omega) (by omega) ?_
  intro W k hK hk
  exact opens_yes W b w.heap.size m k (m.c (16 * row + k)) ((HH.out.below hb4 (by omega)).block (hK.block b (by have := HH.out.lt; have := hb4.size; omega) (apart_low hb))) hk (show Boxed W _ _ _ from hK.block' C0 (apart_in (Nat.le_refl _) (by omega))).cell

theorem held_seq (w : World) (n0 b row j : Nat) (m : Mx) (h : MxAt w b m) (hrow : row < m.r) (hb : b < n0) (hn0 : n0 ≤ w.heap.size) :
    Calls Try.prog 60 #[.pointer (some ⟨b, 0, none⟩), .int .i64 row, .int .u32 (j : Nat)] w fun e w' => ∃ lb, e = .returned (.func (.func 84) #[] lb) ∧ Below w.heap.size w w' ∧ Goes n0 w.heap.size w'.heap.size (m.at fun k => m.c (16 * row + k) == j) w' lb :=
  (held_seqF w n0 b row j m h hrow hb hn0).mono fun e w' ⟨lb, h1, h2, h3⟩ => ⟨lb, h1, h2, h3.goes (at_lt h.n16)⟩

theorem open_seq (w : World) (n0 b row : Nat) (m : Mx) (h : MxAt w b m) (hrow : row < m.r) (hb : b < n0) (hn0 : n0 ≤ w.heap.size) :
    Calls Try.prog 58 #[.pointer (some ⟨b, 0, none⟩), .int .i64 row] w fun e w' => ∃ lb, e = .returned (.func (.func 84) #[] lb) ∧ Below w.heap.size w w' ∧ Goes n0 w.heap.size w'.heap.size (m.at fun k => m.c (16 * row + k) == 0 && !m.d k) w' lb :=
  (open_seqF w n0 b row m h hrow hb hn0).mono fun e w' ⟨lb, h1, h2, h3⟩ => ⟨lb, h1, h2, h3.goes (at_lt h.n16)⟩

end Go.Proofs.Ytdongghjchnpbaa
