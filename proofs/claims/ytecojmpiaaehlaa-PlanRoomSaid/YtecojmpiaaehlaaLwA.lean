/-
  Layer 14's own helpers: asks, profile.
-/
import Derived.Test.YtecojmpiaaehlaaPlU
import Derived.Test.YtecojmpiaaehlaaRfA
import Derived.Deep.Slices
namespace Go.Proofs.Ytecojmpiaaehlaa
open Go.RowKit Go.Shelf Go.ChangeShapes
set_option linter.unusedVariables false

/-- What the walk is told of a slice of asks that came in. -/
def IsAsks (w : World) (a : Option Addr) (len cap : Nat) : Prop :=
  (a = none ∧ len = 0 ∧ cap = 0) ∨
  ∃ x, a = some x ∧ len ≤ cap ∧ cap ≤ maxLen ∧ ∀ r, r < len → ∃ (d n : Int), w.cell? (x.add (r * 2)) = some (.int .i64 d) ∧ w.cell? (x.add (r * 2 + 1)) = some (.int .i64 n)

set_option maxRecDepth 100000 in
theorem isAsks_of {H : Type} {enc : TypeId × Value → H} {w : World} {base : Nat} {held : Bool} {a : Option Addr} {len cap : Nat} {d : DataW H} {p : List MemPlace}
    (h : DataW.Trod enc Try.prog w base (fun _ => true) held 41 (.slice a len cap) d p) : IsAsks w a len cap := by
  obtain ⟨fuel, hf⟩ := h
  rcases Go.Deep.open_slice Try.underlying41 hf with ⟨hcs, _⟩ | ⟨x, l, c, m, n, D, Pl, hcs, _, hl, hm, hmm, _, hi⟩
  · simp [Value.cells] at hcs
    obtain ⟨rfl, rfl, rfl⟩ := hcs
    exact .inl ⟨rfl, rfl, rfl⟩
  · simp [Value.cells] at hcs
    obtain ⟨rfl, rfl, rfl⟩ := hcs
    refine .inr ⟨x, rfl, hl, hm, fun r hr => ?_⟩
    have h3 : Try.prog.cellsOf 24 = 2 := by kernel_rfl
    have h5 : Try.prog.cellsOf 3 = 1 := by kernel_rfl
    simp only [if_true] at hmm
    obtain ⟨cs', hc, ht'⟩ := hi r (by omega)
    rw [h3] at hc
    obtain ⟨_, hcl, hat⟩ := World.cells?_some hc
    obtain ⟨xs, n', _, _, _, hxl, hfld⟩ := DataW.trod_struct Try.underlying24 ht'
    have f0 : DataW.trod enc Try.prog w base (fun _ => true) held n' 3 ((cs'.drop 0).take (Try.prog.cellsOf 3)) = xs[0]? := hfld 0 _ rfl
    have f1 : DataW.trod enc Try.prog w base (fun _ => true) held n' 3 ((cs'.drop 1).take (Try.prog.cellsOf 3)) = xs[1]? := hfld 1 _ rfl
    rw [h5] at f0 f1
    match cs', hcl with
    | [c0, c1], _ =>
      match xs, hxl with
      | [y0, y1], _ =>
        obtain ⟨d0, e0, _, wf0⟩ := DataW.trod_int Try.underlying3 (show _ = some y0 from f0)
        obtain ⟨d1, e1, _, wf1⟩ := DataW.trod_int Try.underlying3 (show _ = some y1 from f1)
        simp at e0 e1
        subst e0
        subst e1
        have c0 := hat 0 (by omega)
        have c1 := hat 1 (by omega)
        rw [Go.Deep.add_add] at c0 c1
        exact ⟨d0, d1, by simpa using c0, by simpa using c1⟩

theorem IsAsks.bounds {w : World} {a : Option Addr} {len cap : Nat} (h : IsAsks w a len cap) : len ≤ cap ∧ cap ≤ 9223372036854775807 := by
  rcases h with ⟨rfl, rfl, rfl⟩ | ⟨x, rfl, h1, h2, _⟩
  · exact ⟨Nat.le_refl _, by omega⟩
  · unfold maxLen at h2
    exact ⟨h1, by omega⟩

/-- Its first 20. -/
theorem IsAsks.rda {w : World} {a : Option Addr} {len cap : Nat} (h : IsAsks w a len cap) : ∃ L : List (Int × Int), L.length = min len 20 ∧ RdA w (.slice a L.length cap) L := by
  have hb := h.bounds
  rcases h with ⟨rfl, rfl, rfl⟩ | ⟨x, rfl, h1, h2, hr⟩
  · exact ⟨[], rfl, none, 0, rfl, Nat.le_refl _, by omega, fun j x hj => by simp at hj⟩
  · have go : ∀ k, k ≤ len → ∃ L : List (Int × Int), L.length = k ∧ ∀ (j : Nat) (y : Int × Int), L[j]? = some y → ∃ b off, some x = some (⟨b, off, none⟩ : Addr) ∧ b < w.heap.size ∧ w.rangeAt b (off + j * 2) [.int .i64 y.1, .int .i64 y.2] := by
      intro k hk
      induction k with
      | zero => exact ⟨[], rfl, fun j y hj => by simp at hj⟩
      | succ k ih =>
        obtain ⟨L, hl, hL⟩ := ih (by omega)
        obtain ⟨d, n, c0, c1⟩ := hr k (by omega)
        refine ⟨L ++ [(d, n)], by simp [hl], fun j y hj => ?_⟩
        by_cases e : j < k
        · rw [List.getElem?_append_left (by omega)] at hj
          exact hL j y hj
        · have hlt := (List.getElem?_eq_some_iff.1 hj).1
          simp only [List.length_append, List.length_cons, List.length_nil, hl] at hlt
          obtain rfl : j = k := by omega
          rw [List.getElem?_append_right (by omega)] at hj
          simp only [hl, Nat.sub_self, List.getElem?_cons_zero, Option.some.injEq] at hj
          subst hj
          obtain ⟨b, off, spot⟩ := x
          obtain ⟨_, _, z0, _⟩ := hr 0 (by omega)
          have hs : spot = none := by simpa [Addr.add] using World.cell?_spot z0
          subst hs
          have hb : b < w.heap.size := by
            have := World.block_lt_of_cell? _ _ z0
            simpa [Addr.add] using this
          rw [Addr.add_lit] at c0 c1
          refine ⟨b, off, rfl, hb, fun i v hv => ?_⟩
          have hi : i < 2 := (List.getElem?_eq_some_iff.1 hv).1
          rw [Nat.add_assoc]
          match i, hi, hv with
          | 0, _, e => exact c0.trans e
          | 1, _, e => exact c1.trans e
    obtain ⟨L, hl, hL⟩ := go (min len 20) (by omega)
    exact ⟨L, hl, some x, cap, rfl, by omega, by omega, hL⟩

/-- Asks, cell by cell. -/
def acs (L : List (Int × Int)) : List Value := L.flatMap fun x => [.int .i64 x.1, .int .i64 x.2]
theorem acs_snoc (L : List (Int × Int)) (x : Int × Int) : acs (L ++ [x]) = acs L ++ [.int .i64 x.1, .int .i64 x.2] := by unfold acs; rw [List.flatMap_append]; rfl
theorem acs_len (L : List (Int × Int)) : (acs L).length = L.length * 2 := by
  unfold acs
  induction L with
  | nil => rfl
  | cons x L ih => rw [List.flatMap_cons, List.length_append, ih, List.length_cons]; simp; omega
theorem acs_at : ∀ {L : List (Int × Int)} {j : Nat} {x : Int × Int} (i : Nat) (v : Value), L[j]? = some x → ([.int .i64 x.1, .int .i64 x.2] : List Value)[i]? = some v → (acs L)[j * 2 + i]? = some v
  | y :: L, 0, x, i, v, h, hv => by
    simp only [List.getElem?_cons_zero, Option.some.injEq] at h
    subst h
    have hi : i < 2 := (List.getElem?_eq_some_iff.1 hv).1
    show ([.int .i64 y.1, .int .i64 y.2] ++ acs L)[0 * 2 + i]? = _
    rw [Nat.zero_mul, Nat.zero_add, List.getElem?_append_left (by simpa using hi)]
    exact hv
  | y :: L, j + 1, x, i, v, h, hv => by
    rw [List.getElem?_cons_succ] at h
    show ([.int .i64 y.1, .int .i64 y.2] ++ acs L)[(j + 1) * 2 + i]? = _
    rw [List.getElem?_append_right (by simp; omega)]
    have e : (j + 1) * 2 + i - ([.int .i64 y.1, .int .i64 y.2] : List Value).length = j * 2 + i := by simp; omega
    rw [e]
    exact acs_at i v h hv
theorem acs_one (L : List (Int × Int)) : ∀ y ∈ acs L, y.oneCell' = true := by
  intro y hy
  unfold acs at hy
  obtain ⟨x, _, hx⟩ := List.mem_flatMap.1 hy
  simp at hx
  rcases hx with rfl | rfl <;> rfl
theorem RdA.of_own {w : World} {base : Nat} {e : TypeId} {v : Value} {n : Nat} {L : List (Int × Int)} (h : w.ownsRow base e 2 v n (acs L)) : RdA w v L := by
  have hn : n = L.length := by have := h.1; rw [acs_len] at this; omega
  subst hn
  obtain ⟨a, c, rfl, h1, h2⟩ := owns_slice h
  refine ⟨a, c, rfl, h1, h2, fun j x hj => ?_⟩
  rcases owns_shape h with ⟨_, h0⟩ | ⟨g, cc, hv, hb, hg, _⟩
  · have := (List.getElem?_eq_some_iff.1 hj).1; omega
  · simp only [Value.slice.injEq] at hv
    obtain ⟨rfl, -, rfl⟩ := hv
    refine ⟨g, 0, rfl, hg, fun i v hv => ?_⟩
    have := World.ownsRow.cells h (g := g) rfl _ v (acs_at i v hj hv)
    rw [Addr.add_lit] at this
    rw [Nat.add_assoc]; exact this
theorem take_snoc_a {l : List (Int × Int)} {k : Nat} {x : Int × Int} (h : l[k]? = some x) : l.take (k + 1) = l.take k ++ [x] := by
  rw [List.take_add_one, h]; rfl
theorem info_rask : (Try.prog.info? 24).map (·.size) = some 2 := by kernel_rfl
theorem infoAsk : (Try.prog.info? 34).map (fun i => (i.zero, i.size, i.bytes)) = some (some (.agg #[.int .i64 0, .int .i64 0]), 2, 16) := by kernel_rfl

theorem profile_all (w : World) (a : Option Addr) (len cap : Nat) (ts : List (List Int)) (h : RawP w a len cap ts) :
    Calls Try.prog 12 #[.slice a len cap] w fun e w' => ∃ u, e = .returned u ∧ RdP w' u (ts.take 10) ∧ Below w.heap.size w w' ∧ ∀ w2, Keeps (fun q => q < w.heap.size) w' w2 → RdP w2 u (ts.take 10) := by
  have HC := hid (few_all w a len cap ts h)
  clear h
  go_enter Try.func12, Try.ntmps12
  go_wp2_with fail
  refine HC.out.mono ?_
  rintro e w' ⟨u, rfl, hu, hb, hk⟩
  obtain ⟨ua, uc, rfl, hu1, hu2⟩ := hu.len
  have HU := hid hu
  have HB := hid hb
  have HK := hid hk
  clear hu hb hk hu1
  generalize (ts.take 10).length = n at *
  go_wp2
  go_ret
  exact ⟨_, rfl, HU.out, HB.out, HK.out⟩
theorem profile_any (w : World) (a : Option Addr) (len cap : Nat) (ts : List (List Int)) (h : RawP w a len cap ts) :
    Calls Try.prog 12 #[.slice a len cap] w fun e w' => ∃ u, e = .returned u ∧ RdP w' u (ts.take 10) ∧ Below w.heap.size w w' :=
  (profile_all w a len cap ts h).mono fun _ _ ⟨u, h1, h2, h3, _⟩ => ⟨u, h1, h2, h3⟩

set_option maxRecDepth 100000 in
set_option maxHeartbeats 4000000 in
theorem asks_any (w : World) (a : Option Addr) (len cap : Nat) (L : List (Int × Int)) (hL : L.length = min len 20) (hlc : len ≤ cap) (hcm : cap ≤ 9223372036854775807) (h : RdA w (.slice a L.length cap) L) :
    Calls Try.prog 20 #[.slice a len cap] w fun e w' => ∃ u, e = .returned (.tuple #[u, .slice a L.length cap]) ∧ RdA w' u L ∧ Below w.heap.size w w' := by
  have hmn : (if (20 : Int) < (len : Int) then (20 : Int) else (len : Int)) = (L.length : Int) := by split <;> omega
  have hmn2 : min (len : Int) 20 = (L.length : Int) := by omega
  have hl20 : L.length ≤ 20 := by omega
  have hll : L.length ≤ len := by omega
  have HH := hid h
  clear h hL
  generalize hln : L.length = ln at *
  have HLN := hid hln
  clear hln
  go_enter Try.func20, Try.ntmps20
  go_wp2_with fail
  go_loopw [4, 14] (fun v i wr => ∃ k : Nat, k ≤ ln ∧ i = .int .i64 k ∧ wr.ownsRow w.heap.size 34 2 v k (acs (L.take k)) ∧ Below w.heap.size w wr) (fun _ i _ => ln - (intOf i).toNat)
  case atStart => exact ⟨0, Nat.zero_le _, rfl, World.ownsRow_nil _ _ _ _, Below.refl _ _⟩
  case round =>
    obtain ⟨k, hk, rfl, hv, hB⟩ := hrel
    have HV := hid hv
    have HB := hid hB
    have hsw := hB.size
    obtain ⟨av, cv, rfl, hcv1, hcv2⟩ := owns_slice hv
    clear hv
    by_cases hlt : k < ln
    · obtain ⟨⟨K, N⟩, hx⟩ : ∃ x, L[k]? = some x := ⟨_, List.getElem?_eq_getElem (by rw [HLN.out]; exact hlt)⟩
      obtain ⟨b, off, rfl, hbl, hrg⟩ := (HH.out.all hB).at k _ hx
      have hki : (k : Int) < (ln : Int) := by omega
      have HT := hid (take_snoc_a hx)
      have HRG := hid hrg
      clear hB hrg hx
      go_wp2_with (first
        | (refine wpList_load_mid rfl 24 (.tmp 16) rfl b (off + k * 2) rfl _ _ HRG.out Try.underlying24 rfl info_rask ?_)
        | (refine st_fresh rfl 24 (.tmp 6) (.tmp 17) rfl 2 info_rask wr _ #[.int .i64 K, .int .i64 N] rfl rfl rfl rfl (by simp [Value.oneCell']) ?_; intro w3 g3 b3 s3; have HG3 := hid g3; have HB3 := hid b3; have h31 := b3.size; have hof := hid (owns_below (owns_below HV.out b3) ((Below.refl _ w3).alloc (Nat.le_refl _) (.cells #[.int .i64 K, .int .i64 N] 34))); have hsrc := hid (SrcC.lit w3 #[.int .i64 K, .int .i64 N] 34 1 [.int .i64 K, .int .i64 N] rfl); clear g3 b3 s3)
        | (refine load_st rfl 24 (.tmp 6) rfl wr.heap.size rfl _ _ 2 HG3.out Try.underlying24 info_rask rfl ?_)
        | (at_builtin; (refine appsw (by rfl) 42 34 (.tmp 18) (.tmp 20) rfl w.heap.size 2 16 _ Try.underlying42 infoAsk rfl (by decide) _ _ k 1 (k + 1) _ _ rfl rfl hof.out hsrc.out rfl (by intro y hy; simp at hy; rcases hy with rfl | rfl <;> rfl) rfl (by omega) (by omega) (by simp; omega) ?_); intro ad9 cp9 wA hoA hgA; have HOA := hid hoA; have HGA := hid hgA; clear hoA hgA)
        | fail)
      have hbA : Below w.heap.size w wA := ((HB.out.trans (HB3.out.mono hsw)).alloc (by omega) (.cells #[.int .i64 K, .int .i64 N] 34)).grown HGA.out (by simp; omega) (fun g hg => (World.ownsRow.lt HV.out g hg).1)
      have HBA := hid hbA
      clear hbA
      go_wp2
      go_roundw
      case rel => exact ⟨k + 1, hlt, by go_num, by rw [HT.out, acs_snoc]; exact HOA.out, HBA.out⟩
      case measure => simp [intOf]; omega
    · have e : k = ln := by omega
      have hki : ¬ (k : Int) < (ln : Int) := by omega
      have HE := hid (show L.take k = L by rw [e, ← HLN.out, List.take_length])
      clear hlt e hB
      go_wp2
      go_ret2
      exact ⟨_, rfl, by have := HV.out; rw [HE.out] at this; exact RdA.of_own this, HB.out⟩

end Go.Proofs.Ytecojmpiaaehlaa
