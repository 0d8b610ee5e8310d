/-
  Victim: numbers, greatest, harm, cells.
-/
import Derived.Test.YtdongghjchnpbaaVcC
import Derived.Test.YtdongghjchnpbaaShfA
namespace Go.Proofs.Ytdongghjchnpbaa
open Go.RowKit Go.Shelf
set_option linter.unusedVariables false
set_option linter.unusedSimpArgs false

def cndV (c : Cd) : Value := .agg #[.int .u32 (c.1 : Nat), .int .u8 (c.2 : Nat)]

/-- A row of Cands that is read. -/
def RdC (w : World) (v : Value) (q : List Cd) : Prop :=
  ∃ a c, v = .slice a q.length c ∧ q.length ≤ c ∧ c ≤ 9223372036854775807 ∧ ∀ (k : Nat) (x : Cd), q[k]? = some x → x.1 < 4294967296 ∧ x.2 < 256 ∧ ∃ g off, a = some ⟨g, off, none⟩ ∧ g < w.heap.size ∧ w.cell? ⟨g, off + k * 2, none⟩ = some (.int .u32 (x.1 : Nat)) ∧ w.cell? ⟨g, off + k * 2 + 1, none⟩ = some (.int .u8 (x.2 : Nat))

theorem RdC.nil (w : World) : RdC w (.slice none 0 0) [] := ⟨none, 0, rfl, Nat.le_refl _, by omega, fun k x h => by cases h⟩

theorem RdC.len {w : World} {v : Value} {q : List Cd} (h : RdC w v q) : ∃ a c, v = .slice a q.length c ∧ q.length ≤ c ∧ c ≤ 9223372036854775807 := by
  obtain ⟨a, c, h1, h2, h3, -⟩ := h
  exact ⟨a, c, h1, h2, h3⟩

theorem RdC.at {w : World} {a : Option Addr} {n c : Nat} {q : List Cd} (h : RdC w (.slice a n c) q) {k : Nat} {x : Cd} (hx : q[k]? = some x) : x.1 < 4294967296 ∧ x.2 < 256 ∧ ∃ g off, a = some ⟨g, off, none⟩ ∧ g < w.heap.size ∧ w.cell? ⟨g, off + k * 2, none⟩ = some (.int .u32 (x.1 : Nat)) ∧ w.cell? ⟨g, off + k * 2 + 1, none⟩ = some (.int .u8 (x.2 : Nat)) := by
  obtain ⟨a', c', e, _, _, h4⟩ := h
  simp only [Value.slice.injEq] at e
  obtain ⟨rfl, -, -⟩ := e
  exact h4 k x hx

theorem RdC.below {w w' : World} {v : Value} {q : List Cd} (h : RdC w v q) (hb : Below w.heap.size w w') : RdC w' v q := by
  obtain ⟨a, c, h1, h2, h3, h4⟩ := h
  refine ⟨a, c, h1, h2, h3, fun k x hx => ?_⟩
  obtain ⟨b1, b2, g, off, e, hg, c0, c1⟩ := h4 k x hx
  exact ⟨b1, b2, g, off, e, Nat.lt_of_lt_of_le hg hb.size, (hb.cell (p := ⟨g, off + k * 2, none⟩) hg).trans c0, (hb.cell (p := ⟨g, off + k * 2 + 1, none⟩) hg).trans c1⟩

theorem RdC.take {w : World} {a : Option Addr} {n c : Nat} {q : List Cd} (h : RdC w (.slice a n c) q) (i : Nat) (hi : i ≤ q.length) : RdC w (.slice a i c) (q.take i) := by
  obtain ⟨a', c', e, h2, h3, h4⟩ := h
  simp only [Value.slice.injEq] at e
  obtain ⟨rfl, -, rfl⟩ := e
  refine ⟨a, c, by rw [List.length_take, Nat.min_eq_left hi], by rw [List.length_take]; omega, h3, fun k x hx => h4 k x ?_⟩
  have hk := (List.getElem?_eq_some_iff.1 hx).1
  rw [List.length_take] at hk
  rwa [List.getElem?_take_of_lt (by omega)] at hx

theorem ccels_len' (l : List Cd) : (ccels l).length = l.length * 2 := by
  induction l with
  | nil => rfl
  | cons c l ih =>
    show (ccel c ++ ccels l).length = _
    rw [List.length_append, ih, List.length_cons]
    show 2 + _ = _
    omega
theorem ccels_at' {l : List Cd} {k i : Nat} {c : Cd} {v : Value} (hk : l[k]? = some c) (hv : (ccel c)[i]? = some v) : (ccels l)[k * 2 + i]? = some v := by
  induction l generalizing k with
  | nil => cases hk
  | cons d l ih =>
    have hi : i < 2 := (List.getElem?_eq_some_iff.1 hv).1
    show (ccel d ++ ccels l)[k * 2 + i]? = _
    cases k with
    | zero =>
      simp only [List.getElem?_cons_zero, Option.some.injEq] at hk
      subst hk
      rw [Nat.zero_mul, Nat.zero_add, List.getElem?_append_left (show i < (ccel d).length from hi)]
      exact hv
    | succ k =>
      rw [List.getElem?_cons_succ] at hk
      rw [List.getElem?_append_right (show (ccel d).length ≤ _ from (show 2 ≤ _ by omega)), show (ccel d).length = 2 from rfl, show (k + 1) * 2 + i - 2 = k * 2 + i by omega]
      exact ih hk

theorem RdC.of_own {w : World} {base : Nat} {e : TypeId} {v : Value} {q : List Cd} (h : w.ownsRow base e 2 v q.length (ccels q)) (hb : ∀ x ∈ q, x.1 < 4294967296 ∧ x.2 < 256) : RdC w v q := by
  obtain ⟨a, c, rfl, h1, h2⟩ := owns_slice h
  refine ⟨a, c, rfl, h1, h2, fun k x hx => ?_⟩
  have hbx := hb x (List.mem_of_getElem? hx)
  refine ⟨hbx.1, hbx.2, ?_⟩
  rcases owns_shape h with ⟨h3, h4⟩ | ⟨g, cap, h3, _, h5, _⟩
  · have := (List.getElem?_eq_some_iff.1 hx).1; omega
  · simp only [Value.slice.injEq] at h3
    obtain ⟨rfl, -, rfl⟩ := h3
    have k0 := World.ownsRow.cells h (g := g) rfl (k * 2 + 0) _ (ccels_at' hx rfl)
    have k1 := World.ownsRow.cells h (g := g) rfl (k * 2 + 1) _ (ccels_at' hx rfl)
    rw [Addr.add_lit] at k0 k1
    exact ⟨g, 0, rfl, h5, k0, by rw [Nat.add_assoc]; exact k1⟩

theorem info32 : (Try.prog.info? 33).map (fun i => (i.zero, i.size, i.bytes)) = some (some (.int .u32 0), 1, 4) := by kernel_rfl

set_option maxRecDepth 100000 in
set_option maxHeartbeats 4000000 in
theorem numbers_any (w : World) (v : Value) (q : List Cd) (h : RdC w v q) (hl : q.length ≤ 1000) :
    Calls Try.prog 55 #[v] w fun e w' => ∃ u, e = .returned u ∧ w'.ownsRow w.heap.size 33 1 u q.length (q.map fun c => uv c.1) ∧ Below w.heap.size w w' := by
  obtain ⟨a, c, rfl, hc1, hc2⟩ := h.len
  have H := hid h
  clear h
  obtain ⟨n, hn⟩ : ∃ n, n = q.length := ⟨_, rfl⟩
  rw [← hn] at hc1 H hl ⊢
  have HN := hid hn
  clear hn
  go_enter Try.func55, Try.ntmps55
  go_wp2_with fail
  go_loopw [3, 8] (fun u i wr => ∃ k : Nat, i = .int .i64 k ∧ k ≤ n ∧ wr.ownsRow w.heap.size 33 1 u k ((q.take k).map fun c => uv c.1) ∧ Below w.heap.size w wr) (fun _ i _ => n - (intOf i).toNat)
  case atStart => exact ⟨0, rfl, Nat.zero_le _, World.ownsRow_nil _ _ _ _, Below.refl _ _⟩
  case round =>
    obtain ⟨k, rfl, hk, ho, hb⟩ := hrel
    have HO := hid ho
    have HB := hid hb
    have hsz := hb.size
    by_cases hkn : k < n
    · obtain ⟨x, hx⟩ : ∃ x, q[k]? = some x := ⟨_, List.getElem?_eq_getElem (by have := HN.out; omega)⟩
      obtain ⟨b1, b2, g, off, rfl, hg, z0, z1⟩ := (H.out.below hb).at hx
      have HX := hid hx
      have hki : (k : Int) < (n : Int) := by omega
      obtain ⟨y1, hy1⟩ : ∃ y, y = wr.alloc (.cells #[.int .u32 (x.1 : Nat), .int .u8 (x.2 : Nat)] 80) := ⟨_, rfl⟩
      have hby : Below wr.heap.size wr y1 := by rw [hy1]; exact (Below.refl _ _).alloc (Nat.le_refl _) _
      have hbx : y1.heap[wr.heap.size]? = some (.cells #[.int .u32 (x.1 : Nat), .int .u8 (x.2 : Nat)] 80 (0, 0)) := by rw [hy1]; exact heap_alloc_new wr _
      obtain ⟨pb, hpb⟩ : ∃ p, p = wr.heap.size := ⟨_, rfl⟩
      rw [← hpb] at hbx
      have o0 : y1.cell? ⟨pb, 0, none⟩ = some (.int .u32 (x.1 : Nat)) := (cell_of_row _ _ _ _ _ _ hbx).trans rfl
      have HBY := hid (hb.trans (hby.mono hsz))
      have hys := hby.size
      have HOY := hid (owns_below ho hby)
      clear ho hb hx hby hbx
      go_upto_region 5 with (fail)
      rw [← hy1, ← hpb]
      clear hy1 hpb z0 z1
      have hsrc := hid (SrcC.lit y1 #[.int .u32 (x.1 : Nat)] 33 1 [uv x.1] rfl)
      have hof := hid (owns_below HOY.out ((Below.refl _ _).alloc (Nat.le_refl _) (.cells #[.int .u32 (x.1 : Nat)] 33)))
      have HZ := hid (show (y1.alloc (.cells #[.int .u32 (x.1 : Nat)] 33)).heap.size = y1.heap.size + 1 by simp)
      go_wp2_with (first
        | (at_builtin; (refine appsw (by rfl) 60 33 (.tmp 12) (.tmp 15) rfl w.heap.size 1 4 _ Try.underlying60 info32 rfl (by decide) _ _ k 1 (k + 1) _ _ rfl rfl hof.out hsrc.out rfl (by intro y hy; rw [List.mem_singleton] at hy; subst hy; rfl) rfl (by omega) (by omega) (by have := HZ.out; omega) ?_); intro ad9 cp9 wA hoA hgA; have HOA := hid hoA; have HBA := hid (show Below w.heap.size w wA from (HBY.out.alloc (by omega) _).grown hgA (by have := HZ.out; omega) (fun g hg => (World.ownsRow.lt HOY.out g hg).1)); clear hoA hgA)
        | fail)
      go_roundw
      case rel => exact ⟨k + 1, by go_num, by omega, by rw [take_snoc' _ _ _ HX.out, List.map_append]; exact HOA.out, HBA.out⟩
      case measure => simp [intOf]; omega
    · have hki : ¬ (k : Int) < (n : Int) := by omega
      have e : k = n := by omega
      have HO2 := hid (show wr.ownsRow w.heap.size 33 1 _ n (q.map fun c => uv c.1) from by
        have h1 := ho
        rw [e, HN.out, List.take_length] at h1
        rw [HN.out]
        exact h1)
      clear ho hb e
      go_wp2_with fail
      go_ret
      exact ⟨_, rfl, HO2.out, HB.out⟩

theorem grC_at {q : List Cd} {n : Nat} {x : Cd} (hn : q.length = n + 1) (hx : q[n]? = some x) : grC q = (x.2 : Int) := by
  unfold grC
  rw [List.getLast?_eq_getElem?, hn, Nat.add_sub_cancel, hx]

theorem greatest_any (w : World) (v : Value) (q : List Cd) (h : RdC w v q) (hl : q.length ≤ 1000) :
    Calls Try.prog 68 #[v] w fun e w' => e = .returned (.int .i64 (grC q)) ∧ w = w' := by
  obtain ⟨a, c, rfl, hc1, hc2⟩ := h.len
  have H := hid h
  clear h
  cases hq : q.length with
  | zero =>
    rw [hq] at H
    have hq0 : q = [] := List.length_eq_zero_iff.1 hq
    subst hq0
    clear H
    go_enter Try.func68, Try.ntmps68
    go_wp2_with fail
    go_ret
    exact ⟨rfl, rfl⟩
  | succ n =>
    obtain ⟨x, hx⟩ : ∃ x, q[n]? = some x := ⟨_, List.getElem?_eq_getElem (by omega)⟩
    rw [hq] at H hc1 hl
    obtain ⟨b1, b2, g, off, rfl, hg, z0, z1⟩ := H.out.at hx
    have HG := hid (grC_at hq hx)
    obtain ⟨N, hN⟩ : ∃ N, N = n + 1 := ⟨_, rfl⟩
    have hN1 : (N : Int) - 1 = (n : Int) := by omega
    have hN2 : ((N : Int) == 0) = false := by simp; omega
    have hN3 : (n : Int) < (N : Int) := by omega
    have hN4 : n < N := by omega
    have b2i : (x.2 : Int) < 256 := by omega
    rw [← hN] at H hc1 hl ⊢
    clear H hx hN hq z0
    go_enter Try.func68, Try.ntmps68
    go_wp2_with fail
    go_ret
    exact ⟨congrArg (fun x => Ending.returned (Value.int .i64 x)) HG.out.symm, rfl⟩

def harmI (p q : List Cd) : Int := if cmp3 p.length q.length ≠ 0 then cmp3 p.length q.length else cmp3 (grC p) (grC q)
theorem harmI_harm (p q : List Cd) : harmI p q < 0 ↔ Harm p q := by
  unfold harmI cmp3 Harm
  repeat' split
  all_goals omega
theorem orL_harm (p q : List Cd) : orL [cmp3 p.length q.length, cmp3 (grC p) (grC q)] = harmI p q := by
  unfold orL orL harmI
  split
  · rfl
  · unfold orL
    split
    · rfl
    · rename_i h; simp only [ne_eq, Decidable.not_not] at h; exact h.symm

set_option maxRecDepth 100000 in
set_option maxHeartbeats 4000000 in
theorem harm_any (w : World) (va vb : Value) (p q : List Cd) (ha : RdC w va p) (hb : RdC w vb q) (hl : p.length ≤ 1000) (hl2 : q.length ≤ 1000) :
    Calls Try.prog 54 #[va, vb] w fun e w' => e = .returned (.int .i64 (harmI p q)) ∧ Below w.heap.size w w' := by
  obtain ⟨a, c, rfl, hc1, hc2⟩ := ha.len
  obtain ⟨a', c', rfl, hc1', hc2'⟩ := hb.len
  have HA := hid (greatest_any w _ p ha hl)
  have HB := hid (greatest_any w _ q hb hl2)
  have HO := hid (orL_harm p q)
  generalize harmI p q = O at *
  generalize grC p = gp at *
  generalize grC q = gq at *
  generalize p.length = np at *
  generalize q.length = nq at *
  clear ha hb
  have HC1 := hid (cmpi_any (np : Int) (nq : Int) w)
  have HC2 := hid (cmpi_any gp gq w)
  obtain ⟨w1, hw1⟩ : ∃ w1, w1 = w.alloc (.cells #[.int .i64 (cmp3 (np : Int) (nq : Int)), .int .i64 (cmp3 gp gq)] 3) := ⟨_, rfl⟩
  have hg1 : w1.heap[w.heap.size]? = some (.cells #[.int .i64 (cmp3 (np : Int) (nq : Int)), .int .i64 (cmp3 gp gq)] 3 (0, 0)) := by rw [hw1]; exact heap_alloc_new w _
  have hb1 : Below w.heap.size w w1 := by rw [hw1]; exact (Below.refl _ _).alloc (Nat.le_refl _) _
  have HR := hid (or_grw w1 w.heap.size 2 [cmp3 (np : Int) (nq : Int), cmp3 gp gq] rfl (by omega) (by intro k x hk; rw [cell_of_row _ _ _ _ _ _ hg1]; match k, hk with | 0, hk => (cases hk; rfl) | 1, hk => (cases hk; rfl) | k + 2, hk => cases hk))
  rw [hw1] at HR
  have HB1 := hid hb1
  rw [hw1] at HB1
  clear hw1 hg1 hb1
  go_enter Try.func54, Try.ntmps54
  go_wp2_with (first
    | (go_at_call 67; (with_reducible refine HC1.out.mono ?_); rintro e w' ⟨rfl, rfl⟩)
    | (go_at_call 67; (with_reducible refine HC2.out.mono ?_); rintro e w' ⟨rfl, rfl⟩)
    | (go_at_call 68; (with_reducible refine HA.out.mono ?_); rintro e w' ⟨rfl, rfl⟩)
    | (go_at_call 68; (with_reducible refine HB.out.mono ?_); rintro e w' ⟨rfl, rfl⟩)
    | (go_at_call 66; (with_reducible refine HR.out.mono ?_); rintro e y ⟨rfl, hy, -⟩; rw [HO.out]; have HY := hid (HB1.out.trans (hy.mono (by simp))); clear hy)
    | fail)
  go_ret
  exact ⟨rfl, HY.out⟩

theorem w64t (k : Nat) (h : k < 9223372036854775807) : Go.RowKit.wrap64 ((k : Int) + 1) = ((k + 1 : Nat) : Int) := by unfold Go.RowKit.wrap64; omega

theorem upN_snoc (m : Mx) (l : List Nat) (x : Nat) : ((l ++ [x]).filter fun k => !m.d k).length = (l.filter fun k => !m.d k).length + (if m.d x then 0 else 1) := by
  rw [List.filter_append, List.length_append]
  cases h : m.d x <;> simp [h]

theorem cnt_nodes (m : Mx) (j : Nat) : m.cnt j = ((m.nodes j).filter fun k => !m.d k).length := by
  unfold Mx.cnt Mx.nodes
  cases m.where j <;> rfl

set_option maxRecDepth 100000 in
set_option maxHeartbeats 4000000 in
theorem cells_any (w : World) (b : Nat) (m : Mx) (j : Nat) (h : MxAt w b m) :
    Calls Try.prog 65 #[.pointer (some ⟨b, 0, none⟩), .int .u32 (j : Nat)] w fun e w' => e = .returned (.int .i64 (m.cnt j : Nat)) ∧ Below w.heap.size w w' := by
  have HH := hid h
  have HB := hid h.lt
  have HN := hid (fun k (hk : k ∈ m.nodes j) => nodes_lt k hk)
  have hlen : (m.nodes j).length ≤ 16 := by
    have h1 := h.n16
    unfold Mx.nodes
    split
    · simp
    · exact Nat.le_trans (show (m.own _ j).length ≤ m.n from m.at_len _) h1
  rw [cnt_nodes]
  have HOF := hid (of_nodes w b m j h)
  obtain ⟨L, hL⟩ : ∃ L, L = m.nodes j := ⟨_, rfl⟩
  rw [← hL] at HN HOF hlen ⊢
  obtain ⟨n, hn⟩ : ∃ n, n = L.length := ⟨_, rfl⟩
  rw [← hn] at hlen HOF
  have HL := hid hn
  clear h hL hn
  go_enter Try.func65, Try.ntmps65
  go_wp2_with fail
  refine HOF.out.mono ?_
  rintro e w1 ⟨r, v, q, rfl, hv, hb1⟩
  have HR := hid (show RdV w1 v (L.map iv) from by rw [HL.out] at hv; exact RdV.of_own hv)
  obtain ⟨a, c, rfl, hc1, hc2⟩ := owns_slice hv
  have HB1 := hid hb1
  clear hv hb1
  go_wp2_with fail
  go_loopw [8, 20] (fun u i wr => ∃ k : Nat, i = .int .i64 k ∧ k ≤ n ∧ u = .int .i64 ((((L.take k).filter fun x => !m.d x).length : Nat) : Int) ∧ Below w1.heap.size w1 wr) (fun _ i _ => n - (intOf i).toNat)
  case atStart => exact ⟨0, rfl, Nat.zero_le _, rfl, Below.refl _ _⟩
  case round =>
    obtain ⟨k, rfl, hk, rfl, hb⟩ := hrel
    have HW := hid hb
    by_cases hkn : k < n
    · obtain ⟨x, hx⟩ : ∃ x, L[k]? = some x := ⟨_, List.getElem?_eq_getElem (by have := HL.out; omega)⟩
      obtain ⟨-, g, off, rfl, hg, hcell⟩ := RdV.at1 (HR.out.all hb) k (iv x) (by rw [List.getElem?_map, hx]; rfl)
      have hc0 : wr.cell? ⟨g, off + k, none⟩ = some (.int .i64 (x : Nat)) := hcell
      have hxn := HN.out x (List.mem_of_getElem? hx)
      have HM := hid (HH.out.below (HB1.out.trans (hb.mono HB1.out.size)) HB.out)
      have HI := hid (isup_yes wr b m x HM.out hxn)
      have hki : (k : Int) < (n : Int) := by omega
      have HT := hid (take_snoc' _ _ _ hx)
      have HU := hid (upN_snoc m (L.take k) x)
      have hfl : (((L.take k).filter fun x => !m.d x).length) ≤ 16 := Nat.le_trans (List.length_filter_le _ _) (by rw [List.length_take]; omega)
      generalize hff : (((L.take k).filter fun x => !m.d x).length) = ff at *
      have HFF := hid hff
      have hw1 := w64t ff (by omega)
      clear hb hx hcell hff
      cases hd : m.d x with
      | true =>
        rw [hd] at HI HU
        have hf2 := HU.out
        go_wp2_with fail
        refine HI.out.mono ?_
        rintro e w2 ⟨rfl, rfl⟩
        go_wp2_with fail
        go_roundw
        case rel => exact ⟨k + 1, by go_num, by omega, by rw [HT.out, HU.out]; simp, HW.out⟩
        case measure => simp [intOf]; omega
      | false =>
        rw [hd] at HI HU
        go_wp2_with fail
        refine HI.out.mono ?_
        rintro e w2 ⟨rfl, rfl⟩
        go_wp2_with fail
        go_roundw
        case rel => exact ⟨k + 1, by go_num, by omega, by rw [HT.out, HU.out]; simp, HW.out⟩
        case measure => simp [intOf]; omega
    · have hki : ¬ (k : Int) < (n : Int) := by omega
      have e : k = n := by omega
      have HE := hid (show L.take k = L by rw [e, HL.out, List.take_length])
      clear hb e
      go_wp2_with fail
      go_ret
      exact ⟨by rw [HE.out]; rfl, HB1.out.trans (HW.out.mono HB1.out.size)⟩

end Go.Proofs.Ytdongghjchnpbaa
