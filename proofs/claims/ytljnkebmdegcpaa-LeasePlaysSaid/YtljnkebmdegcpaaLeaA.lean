/-
  The document's example.
-/
import Derived.Test.YtljnkebmdegcpaaLeaR
namespace Go.Proofs.Ytljnkebmdegcpaa
open Go.RowKit
set_option linter.unusedVariables false
set_option linter.unusedSimpArgs false

theorem hear_lit (w : World) (b g : Nat) (l l' : List Nd) (i : Int) (now life : Nat) (f o : Bool) (h : BkAt w b g l) (hn : now ≤ 4294967295) (hl : life ≤ 4294967295) (e : hear l i now life = (l', f, o)) :
    Calls Try.prog 11 #[.pointer (some ⟨b, 0, none⟩), .int .i64 i, .int .u32 (now : Int), .int .u32 (life : Int)] w fun e w' =>
      e = .returned (.tuple #[.bool f, .bool o]) ∧ BkAt w' b g l' ∧ Keeps (fun k => k = g) w w' := by
  have := hear_any w b g l i now life h hn hl
  rw [e] at this
  exact this
theorem tick_lit (w : World) (b g : Nat) (l l' : List Nd) (now : Nat) (G : List (Nat × Nat)) (A : List Nat) (h : BkAt w b g l) (hn : now ≤ 4294967295) (e1 : ticks now l = l') (e2 : grants now l l.length = G) (e3 : aways now l l.length = A) :
    Calls Try.prog 13 #[.pointer (some ⟨b, 0, none⟩), .int .u32 (now : Int)] w fun e w' => ∃ vg va, e = .returned (.tuple #[vg, va]) ∧ TkAt w w' b g vg va l' G A := by
  subst e1 e2 e3
  exact tick_any w b g l now h hn
/-- Behind a call on a book: what lay below it. -/
theorem kbel {w0 w w' : World} {b g : Nat} {l : List Nd} {B : Nat} (hb : Below B w0 w) (hk : Keeps (fun k => k = g) w w') (hg : B ≤ g) (hB : B ≤ w.heap.size) : Below B w0 w' :=
  hb.trans (hk.below hB (by rintro i rfl; exact hg))

set_option maxRecDepth 100000 in
set_option maxHeartbeats 4000000 in
theorem awake18_any (w : World) : Calls Try.prog 7 #[] w fun e w' => e = .returned (.bool true) ∧ Below w.heap.size w w' := by
  go_enter Try.func7, Try.ntmps7
  go_wp2_with fail
  refine (new_yes w 2 (by omega) (by omega)).mono ?_
  rintro e w1 ⟨rfl, hk1, hb1⟩
  have hs1 := hb1.size
  have hg1 := hk1.lt.2
  have HK1 := hid hk1
  have HB1 := hid hb1
  clear hk1 hb1
  go_wp2_with fail
  refine (hear_lit w1 _ _ _ [(1, 2, 5, 13), (0, 0, 0, 0)] 0 5 2 true false HK1.out (by omega) (by omega) (by kernel_rfl)).mono ?_
  rintro e w2 ⟨rfl, hk2, hb2⟩
  have hs2 := hb2.size
  have HK2 := hid hk2
  have HB2 := hid (kbel (b := 0) (l := []) HB1.out hb2 (Nat.le_refl _) hs1)
  clear hk2 hb2
  go_wp2_with fail
  refine (tick_lit w2 _ _ _ [(1, 2, 5, 14), (0, 0, 0, 0)] 6 [(0, 14)] [] HK2.out (by omega) (by kernel_rfl) (by kernel_rfl) (by kernel_rfl)).mono ?_
  rintro e w3 ⟨vg3, va3, rfl, h3⟩
  have hs3 := h3.k.size
  obtain ⟨ag, cg, rfl, hcg1, hcg2⟩ := owns_slice h3.hg
  obtain ⟨aa, ca, rfl, hca1, hca2⟩ := owns_slice h3.ha
  rcases owns_shape h3.hg with ⟨_, h0⟩ | ⟨q, cq, eq, hq1, hq2, hq3, hq4⟩
  · exact absurd h0 (by decide)
  simp only [Value.slice.injEq] at eq
  obtain ⟨rfl, -, rfl⟩ := eq
  have HK3 := hid h3.bk
  have HG3 := hid h3.hg
  have HB3 := hid (kbel (b := 0) (l := []) HB2.out h3.k (Nat.le_refl _) (by omega))
  clear h3
  go_wp2_with fail
  refine (tick_lit w3 _ _ _ [(2, 2, 5, 14), (0, 0, 0, 0)] 9 [] [] HK3.out (by omega) (by kernel_rfl) (by kernel_rfl) (by kernel_rfl)).mono ?_
  rintro e w4 ⟨vg4, va4, rfl, h4⟩
  have hs4 := h4.k.size
  have HK4 := hid h4.bk
  have HG4 := hid (owns_by HG3.out fun k hk => h4.k.block k (World.ownsRow.lt HG3.out k hk).2 (by have := (World.ownsRow.lt HG3.out k hk).1; omega))
  have HB4 := hid (kbel (b := 0) (l := []) HB3.out h4.k (Nat.le_refl _) (by omega))
  clear h4
  go_wp2_with fail
  refine (tick_lit w4 _ _ _ [(2, 2, 5, 14), (0, 0, 0, 0)] 14 [] [] HK4.out (by omega) (by kernel_rfl) (by kernel_rfl) (by kernel_rfl)).mono ?_
  rintro e w5 ⟨vg5, va5, rfl, h5⟩
  have hs5 := h5.k.size
  obtain ⟨a5, c5, rfl, -, -⟩ := owns_slice h5.ha
  have HK5 := hid h5.bk
  have HG5 := hid (owns_by HG4.out fun k hk => h5.k.block k (World.ownsRow.lt HG4.out k hk).2 (by have := (World.ownsRow.lt HG4.out k hk).1; omega))
  have HB5 := hid (kbel (b := 0) (l := []) HB4.out h5.k (Nat.le_refl _) (by omega))
  clear h5
  go_wp2_with fail
  refine (tick_lit w5 _ _ _ [(0, 2, 5, 14), (0, 0, 0, 0)] 15 [] [0] HK5.out (by omega) (by kernel_rfl) (by kernel_rfl) (by kernel_rfl)).mono ?_
  rintro e w6 ⟨vg6, va6, rfl, h6⟩
  have hs6 := h6.k.size
  obtain ⟨a6, c6, rfl, -, -⟩ := owns_slice h6.ha
  have HK6 := hid h6.bk
  have HG6 := hid (owns_by HG5.out fun k hk => h6.k.block k (World.ownsRow.lt HG5.out k hk).2 (by have := (World.ownsRow.lt HG5.out k hk).1; omega))
  have HB6 := hid (kbel (b := 0) (l := []) HB5.out h6.k (Nat.le_refl _) (by omega))
  clear h6
  go_wp2_with fail
  refine (hear_lit w6 _ _ _ [(0, 2, 5, 14), (0, 0, 0, 0)] 0 16 2 false false HK6.out (by omega) (by omega) (by kernel_rfl)).mono ?_
  rintro e w7 ⟨rfl, hk7, hb7⟩
  have hs7 := hb7.size
  have hG7 := owns_by HG6.out fun k hk => hb7.block k (World.ownsRow.lt HG6.out k hk).2 (by have := (World.ownsRow.lt HG6.out k hk).1; omega)
  have c0 : w7.cell? ⟨q, 0, none⟩ = some (.int .i64 0) := (hG7.cellAt 0 (by decide)).trans rfl
  have c1 : w7.cell? ⟨q, 1, none⟩ = some (.int .u32 14) := (hG7.cellAt 1 (by decide)).trans rfl
  have HK7 := hid hk7
  have HB7 := hid (kbel (b := 0) (l := []) HB6.out hb7 (Nat.le_refl _) (by omega))
  clear hk7 hb7 hG7
  go_wp2_with fail
  refine (life_any w7 _ _ _ 0 HK7.out).mono ?_
  rintro e w8 ⟨rfl, rfl⟩
  go_wp2_with fail
  go_ret
  exact ⟨rfl, HB7.out⟩

end Go.Proofs.Ytljnkebmdegcpaa
