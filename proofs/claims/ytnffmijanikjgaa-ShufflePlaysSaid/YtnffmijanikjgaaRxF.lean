/-
  The document's matrix: Copy.
-/
import Derived.Test.YtnffmijanikjgaaRxE
namespace Go.Proofs.Ytnffmijanikjgaa
open Go.RowKit Go.Shelf
set_option linter.unusedVariables false

def rowVals2 (n : Nat) (l : List (Nat × Nat)) : List Value := l.map fun x => .slice (some ⟨x.1, 0, none⟩) n x.2
theorem rowVals2_one (n : Nat) (l : List (Nat × Nat)) : ∀ y ∈ rowVals2 n l, y.oneCell' = true := by
  intro y hy
  obtain ⟨_, _, rfl⟩ := List.mem_map.1 hy
  rfl

/-- The rows that were copied so far. -/
structure RowsC (w : World) (lo n : Nat) (c : Nat → Nat) (l : List (Nat × Nat)) : Prop where
  nd : (l.map Prod.fst).Nodup
  low : ∀ x ∈ l, lo ≤ x.1 ∧ n ≤ x.2 ∧ x.2 ≤ 9223372036854775807
  at_ : ∀ i x, l[i]? = some x → ∃ z : Array Value, w.heap[x.1]? = some (.cells z 33 (0, 0)) ∧ ∀ k, k < n → z[k]? = some (uv (c (16 * i + k)))

theorem RowsC.kt {w w' : World} {lo n B : Nat} {c : Nat → Nat} {l : List (Nat × Nat)} {ts : List TypeId} (h : RowsC w lo n c l) (hk : KT ts B w w') (ht : 33 ∉ ts) : RowsC w' lo n c l :=
  ⟨h.nd, h.low, fun i x hx => by obtain ⟨z, h1, h2⟩ := h.at_ i x hx; exact ⟨z, hk.block h1 ht, h2⟩⟩
theorem RowsC.lt {w : World} {lo n : Nat} {c : Nat → Nat} {l : List (Nat × Nat)} (h : RowsC w lo n c l) : ∀ x ∈ l, x.1 < w.heap.size := by
  intro x hx
  obtain ⟨i, hi⟩ := List.getElem?_of_mem hx
  obtain ⟨z, h1, _⟩ := h.at_ i x hi
  exact (Array.getElem?_eq_some_iff.1 h1).1
theorem RowsC.keep {w w' : World} {lo n : Nat} {c : Nat → Nat} {l : List (Nat × Nat)} (h : RowsC w lo n c l) (hb : ∀ k, k < w.heap.size → w'.heap[k]? = w.heap[k]?) : RowsC w' lo n c l :=
  ⟨h.nd, h.low, fun i x hx => by obtain ⟨z, h1, h2⟩ := h.at_ i x hx; exact ⟨z, (hb _ (Array.getElem?_eq_some_iff.1 h1).1).trans h1, h2⟩⟩

/-- One more row. -/
theorem RowsC.snoc {w : World} {lo n : Nat} {c : Nat → Nat} {l : List (Nat × Nat)} {g cp : Nat} {z : Array Value} (h : RowsC w lo n c l) (hg : w.heap[g]? = some (.cells z 33 (0, 0))) (hz : ∀ k, k < n → z[k]? = some (uv (c (16 * l.length + k)))) (hlo : lo ≤ g) (hn : n ≤ cp) (hm : cp ≤ 9223372036854775807) (hne : ∀ x ∈ l, x.1 ≠ g) : RowsC w lo n c (l ++ [(g, cp)]) := by
  refine ⟨?_, fun x hx => ?_, fun i x hx => ?_⟩
  · rw [List.map_append]
    refine List.nodup_append.2 ⟨h.nd, by simp, fun a ha b hb => ?_⟩
    simp at hb
    obtain ⟨x, hx, rfl⟩ := List.mem_map.1 ha
    rw [hb]; exact hne x hx
  · rcases List.mem_append.1 hx with hx | hx
    · exact h.low x hx
    · rw [List.mem_singleton] at hx; rw [hx]; exact ⟨hlo, hn, hm⟩
  · rcases Nat.lt_trichotomy i l.length with h1 | h1 | h1
    · rw [List.getElem?_append_left h1] at hx; exact h.at_ i x hx
    · rw [h1, List.getElem?_append_right (Nat.le_refl _)] at hx
      simp at hx
      subst hx
      rw [h1]
      exact ⟨z, hg, hz⟩
    · rw [List.getElem?_eq_none (by simp; omega)] at hx; cases hx

theorem rcopy_nil (w : World) :
    Calls Try.prog 13 #[.pointer none] w fun e w' => e = .returned (.pointer none) ∧ w = w' := by
  go_enter Try.func13, Try.ntmps13
  go_wp2_with fail
  go_ret
  exact ⟨rfl, rfl⟩

def upVals (m : Mx) : List Value := (List.range m.n).map fun k => .bool (!m.d k)
def rowCells (m : Mx) (i : Nat) : List Value := (List.range m.n).map fun k => uv (m.c (16 * i + k))
theorem upVals_one (m : Mx) : ∀ y ∈ upVals m, y.oneCell' = true := by
  intro y hy
  obtain ⟨_, _, rfl⟩ := List.mem_map.1 hy
  rfl
theorem rowCells_one (m : Mx) (i : Nat) : ∀ y ∈ rowCells m i, y.oneCell' = true := by
  intro y hy
  obtain ⟨_, _, rfl⟩ := List.mem_map.1 hy
  rfl
theorem RxAt.srcU {w : World} {lo : Nat} {G : Geo} {m : Mx} (h : RxAt w lo G m) (cap : Nat) : SrcC w (.slice (some ⟨G.bu, 0, none⟩) m.n cap) m.n (upVals m) := by
  refine .inr ⟨_, _, rfl, fun j y hj => ?_⟩
  rw [Addr.add_lit, Nat.zero_add]
  unfold upVals at hj
  rw [List.getElem?_map] at hj
  have hlt : j < m.n := by
    rcases Nat.lt_or_ge j m.n with h1 | h1
    · exact h1
    · rw [List.getElem?_eq_none (by simpa using h1)] at hj; cases hj
  rw [List.getElem?_range hlt] at hj
  rw [h.up j hlt]
  exact hj
theorem RxAt.srcR {w : World} {lo : Nat} {G : Geo} {m : Mx} (h : RxAt w lo G m) (i : Nat) (hi : i < m.r) (cap : Nat) : SrcC w (.slice (some ⟨G.g i, 0, none⟩) m.n cap) m.n (rowCells m i) := by
  refine .inr ⟨_, _, rfl, fun j y hj => ?_⟩
  rw [Addr.add_lit, Nat.zero_add]
  unfold rowCells at hj
  rw [List.getElem?_map] at hj
  have hlt : j < m.n := by
    rcases Nat.lt_or_ge j m.n with h1 | h1
    · exact h1
    · rw [List.getElem?_eq_none (by simpa using h1)] at hj; cases hj
  rw [List.getElem?_range hlt] at hj
  rw [h.cell i j hi hlt]
  exact hj

/-- What a row of the call's own holds, cell by cell. -/
theorem owns_at {w : World} {base : Nat} {e : TypeId} {v : Value} {n : Nat} {xs : List Value} (h : w.ownsRow base e 1 v n xs) (h0 : 0 < n) : ∃ g cap z, v = .slice (some ⟨g, 0, none⟩) n cap ∧ w.heap[g]? = some (.cells z e (0, 0)) ∧ base ≤ g ∧ n ≤ cap ∧ cap ≤ 9223372036854775807 ∧ ∀ (k : Nat) x, k < n → xs[k]? = some x → z[k]? = some x := by
  rcases owns_shape h with ⟨_, hz⟩ | ⟨g, cap, rfl, _⟩
  · omega
  · obtain ⟨cur, h1, h2, h3, h4, h5, h6⟩ := owns_setRow h
    refine ⟨g, cap, cur, rfl, h1, h6, h4, by unfold maxLen at h5; exact h5, fun k x hk hx => ?_⟩
    rw [← h3, List.getElem?_take, if_pos (by omega), Array.getElem?_toList] at hx
    exact hx

set_option maxRecDepth 100000 in
set_option maxHeartbeats 8000000 in
theorem rcopy_any (w : World) (lo : Nat) (G : Geo) (m : Mx) (h : RxAt w lo G m) :
    Calls Try.prog 13 #[.pointer (some ⟨G.x, 0, none⟩)] w fun e w' => ∃ H : Geo, e = .returned (.pointer (some ⟨H.x, 0, none⟩)) ∧ RxAt w' w.heap.size H m ∧ Below w.heap.size w w' := by
  have hc0 := h.c0
  have hc1 := h.c1
  have hn1 := h.n1
  have hn16 := h.n16
  have hr1 := h.r1
  have hr8 := h.r8
  have hri : (m.r : Int) ≤ 8 := by omega
  have hni : (m.n : Int) ≤ 16 := by omega
  have hccr := h.ccr
  have hccm := h.ccm
  have hcur := h.cur
  have hcum := h.cum
  have HX := hid h
  have bA : Below w.heap.size w (w.alloc (.cells #[] 4)) := (Below.refl _ w).alloc (Nat.le_refl _) _
  have hk0 : (w.alloc (.cells #[] 4)).cell? ⟨G.x, 1, none⟩ = some (.slice (some ⟨G.bu, 0, none⟩) m.n G.cu) := (bA.cell (p := ⟨G.x, 1, none⟩) (h.lt G.x (.inl rfl))).trans hc1
  have HSU := hid ((h.below bA (Nat.le_refl _)).srcU G.cu)
  have hul : (upVals m).length = m.n * 1 := by simp [upVals]
  have HUL := hid hul
  have HM0 := hid (World.ownsRow_made w (e := 4) (size := 1) #[] 0 (base := w.heap.size) (Nat.le_refl _) (Nat.zero_le _) rfl)
  have hsA : (w.alloc (.cells #[] 4)).heap.size = w.heap.size + 1 := by simp
  have HSA := hid hsA
  have HBA := hid bA
  clear h hul bA hsA
  go_enter Try.func13, Try.ntmps13
  go_wp2_with (first
    | (at_builtin; (refine appsw (by rfl) 47 4 (.tmp 8) (.tmp 12) rfl w.heap.size 1 1 _ Try.underlying47 infoBoolT rfl (by decide) _ _ 0 m.n m.n _ _ rfl rfl HM0.out HSU.out HUL.out (upVals_one m) (by omega) (by omega) (by omega) (by have := HSA.out; omega) ?_); intro ua uc w5 ho5 hg5; rw [List.nil_append] at ho5; have HO5 := hid ho5; have hg5' : Below w.heap.size w w5 := HBA.out.grown hg5 (by have := HSA.out; omega) (fun g hg => (World.ownsRow.lt HM0.out g hg).1); have HB5 := hid hg5'; have hc06 := (HX.out.below (hg5'.alloc hg5'.size (.cells #[.slice none 0 0, .slice ua m.n uc] 49)) (Nat.le_refl _)).c0; clear ho5 hg5 hg5')
    | fail)
  obtain ⟨X, hX⟩ : ∃ X, X = w5.heap.size := ⟨_, rfl⟩
  have hb6 : Below w.heap.size w (w5.alloc (.cells #[.slice none 0 0, .slice ua m.n uc] 49)) := HB5.out.alloc HB5.out.size _
  have HB6 := hid hb6
  have HX6 := hid (show (w5.alloc (.cells #[.slice none 0 0, .slice ua m.n uc] 49)).heap[X]? = some (.cells #[.slice none 0 0, .slice ua m.n uc] 49 (0, 0)) by rw [hX]; exact heap_alloc_new w5 _)
  have HO6 := hid (owns_below HO5.out ((Below.refl _ w5).alloc (Nat.le_refl _) (.cells #[.slice none 0 0, .slice ua m.n uc] 49)))
  have HXL := hid (show w.heap.size ≤ X by rw [hX]; exact HB5.out.size)
  rw [← hX]
  have HXX := hid hX
  clear hb6 hX hc0 hc1 hk0 hc06
  go_loopw [21] (fun i wr => ∃ (k : Nat) (dv : Value) (l : List (Nat × Nat)), k ≤ m.r ∧ i = .int .i64 k ∧ l.length = k ∧ wr.heap[X]? = some (.cells #[dv, .slice ua m.n uc] 49 (0, 0)) ∧ wr.ownsRow w.heap.size 64 1 dv k (rowVals2 m.n l) ∧ wr.ownsRow w.heap.size 4 1 (.slice ua m.n uc) m.n (upVals m) ∧ RowsC wr w.heap.size m.n m.c l ∧ Below w.heap.size w wr) (fun i _ => m.r - (intOf i).toNat)
  case atStart => exact ⟨0, _, [], Nat.zero_le _, rfl, rfl, HX6.out, World.ownsRow_nil _ _ _ _, HO6.out, ⟨List.nodup_nil, (fun x hx => by cases hx), (fun i x hx => by simp at hx)⟩, HB6.out⟩
  case round =>
    obtain ⟨k, dv, l, hk, rfl, hll, hx, hown, hup, hrows, hB⟩ := hrel
    have HXB := hid hx
    have HO := hid hown
    have HU := hid hup
    have HRW := hid hrows
    have HB := hid hB
    have HLL := hid hll
    have hsx : X < wr.heap.size := (Array.getElem?_eq_some_iff.1 hx).1
    have hsw := hB.size
    obtain ⟨ja, jc, rfl, hj1, hj2⟩ := owns_slice hown
    have hXW := HX.out.below hB (Nat.le_refl _)
    have HXW := hid hXW
    clear hx hown hup hrows hB hll
    by_cases hlt : k < m.r
    · have hki : (k : Int) < (m.r : Int) := by omega
      have hrow := hXW.row k hlt
      obtain ⟨hcp1, hcp2⟩ := hXW.cpn k hlt
      have e0 : wr.cell? ⟨X, 0, none⟩ = some (.slice ja k jc) := (cell_of_row _ _ _ _ _ _ HXB.out).trans rfl
      have b1 : Below wr.heap.size wr ((wr.alloc (.cells #[] 33)).drew) := ((Below.refl _ wr).alloc (Nat.le_refl _) _).drew
      have e1 : ((wr.alloc (.cells #[] 33)).drew).cell? ⟨X, 0, none⟩ = some (.slice ja k jc) := (b1.cell (p := ⟨X, 0, none⟩) hsx).trans e0
      have hs1 : ((wr.alloc (.cells #[] 33)).drew).heap.size = wr.heap.size + 1 := by show (wr.alloc _).heap.size = _; simp
      have HM1 := hid (show ((wr.alloc (.cells #[] 33)).drew).ownsRow wr.heap.size 33 1 (.slice (some ⟨wr.heap.size, 0, none⟩) 0 0) 0 [] from (World.ownsRow_made wr (e := 33) (size := 1) #[] 0 (base := wr.heap.size) (Nat.le_refl _) (Nat.zero_le _) rfl).drew)
      have HSR := hid ((HXW.out.below b1 (Nat.le_refl _)).srcR k hlt (G.cp k))
      have hrl : (rowCells m k).length = m.n * 1 := by simp [rowCells]
      have HRL := hid hrl
      have B1 := hid b1
      have S1 := hid hs1
      clear b1 hs1 hrl hXW
      go_wp2_with fail
      go_region_law (first
        | (refine appsst (by rfl) 64 33 (.tmp 30) (.tmp 31) rfl wr.heap.size 1 4 _ Try.underlying64 Try.infoU32 rfl (by decide) (.slice (some ⟨wr.heap.size, 0, none⟩) 0 0) (.slice (some ⟨G.g k, 0, none⟩) m.n (G.cp k)) 0 m.n m.n [] (rowCells m k) rfl rfl HM1.out HSR.out HRL.out (rowCells_one m k) (by omega) (by omega) (by omega) (by have := S1.out; omega) ?_; intro ad1 cp1 w7 ho7 hg7; rw [List.nil_append] at ho7; have hb7 : Below wr.heap.size wr w7 := B1.out.grown hg7 (by have := S1.out; omega) (fun g hg => (World.ownsRow.lt HM1.out g hg).1); have e7 : w7.cell? ⟨X, 0, none⟩ = some (.slice ja k jc) := (hb7.cell (p := ⟨X, 0, none⟩) hsx).trans e0; have hb8 : Below wr.heap.size wr (w7.alloc (.cells #[.slice ad1 m.n cp1] 64)) := hb7.alloc hb7.size _; have e8 : (w7.alloc (.cells #[.slice ad1 m.n cp1] 64)).cell? ⟨X, 0, none⟩ = some (.slice ja k jc) := (hb8.cell (p := ⟨X, 0, none⟩) hsx).trans e0; have H7 := hid ho7; have B7 := hid hb7; have B8 := hid hb8; have HS8 := hid (SrcC.lit w7 #[.slice ad1 m.n cp1] 64 1 [.slice ad1 m.n cp1] rfl); have HO8 := hid (owns_below HO.out hb8); have HX8 := hid ((hb8.block X hsx).trans HXB.out); have hm8 : w.heap.size ≤ (w7.alloc (.cells #[.slice ad1 m.n cp1] 64)).heap.size := Nat.le_trans hsw hb8.size; have HM8 := hid hm8; clear ho7 hg7 hb7 hb8 hm8)
        | (refine appsst (by rfl) 46 64 (.tmp 29) (.tmp 33) rfl w.heap.size 1 24 _ Try.underlying46 infoRowT rfl (by decide) (.slice ja k jc) (.slice (some ⟨w7.heap.size, 0, none⟩) 1 1) k 1 (k + 1) (rowVals2 m.n l) [.slice ad1 m.n cp1] rfl rfl HO8.out HS8.out rfl (by intro y hy; rw [List.mem_singleton] at hy; subst hy; rfl) rfl (by omega) (by omega) HM8.out ?_; intro ad9 cp9 w9 ho9 hg9; have HO9 := hid ho9; have HG9 := hid hg9; have hx9 := (hg9.block X (Nat.lt_of_lt_of_le hsx B8.out.size) (fun e => by obtain ⟨cur, hc⟩ := owns_ty HO8.out _ e.symm; rw [HX8.out] at hc; simp at hc)).trans HX8.out; have HX9 := hid hx9; have e9 : w9.cell? ⟨X, 0, none⟩ = some (.slice ja k jc) := (cell_of_row _ _ _ _ _ _ hx9).trans rfl; have f9 : w9.frozen? ⟨X, 0, none⟩ = false := frozen_of_row _ _ _ _ _ hx9; clear ho9 hg9 hx9))
      all_goals
        obtain ⟨gn, cn, z, hsl, hgz, hgb, hgc, hgm, hzz⟩ := owns_at (owns_below H7.out ((Below.refl _ w7).alloc (Nat.le_refl _) (.cells #[.slice ad1 m.n cp1] 64))) hn1
        simp only [Value.slice.injEq] at hsl
        obtain ⟨rfl, -, rfl⟩ := hsl
        have hk9 := kset12 w9 X 0 (.slice ad9 (k + 1) cp9)
        have kt1 : KT [64, 49] w.heap.size (w7.alloc (.cells #[.slice (some ⟨gn, 0, none⟩) m.n cp1] 64)) w9 := KT.of_keeps (Keeps.of_grown HG9.out) (fun q _ e => by
          obtain ⟨cur, hc⟩ := owns_ty HO8.out q e
          exact ⟨(World.ownsRow.lt HO8.out q e).1, _, _, _, hc, by simp⟩) HM8.out
        have kt2 : KT [64, 49] w.heap.size w9 (w9.setCell ⟨X, 0, none⟩ (.slice ad9 (k + 1) cp9)) := KT.of_keeps hk9 (fun q _ e => by
          subst e
          exact ⟨HXL.out, _, _, _, HX9.out, by simp⟩) (Nat.le_trans HM8.out HG9.out.size)
        have hrow8 : RowsC (w7.alloc (.cells #[.slice (some ⟨gn, 0, none⟩) m.n cp1] 64)) w.heap.size m.n m.c (l ++ [(gn, cp1)]) := (HRW.out.keep (fun q hq => B8.out.block q hq)).snoc hgz (fun q hq => hzz q _ hq (by rw [HLL.out]; unfold rowCells; rw [List.getElem?_map, List.getElem?_range hq]; rfl)) (by omega) hgc hgm (fun x hx => by have := HRW.out.lt x hx; omega)
        have hrow9 := hrow8.kt (kt1.trans kt2) (by decide)
        have hup9 := owns_kt (owns_below HU.out B8.out) (kt1.trans kt2) (by decide)
        have hown9 := owns_by HO9.out (w' := w9.setCell ⟨X, 0, none⟩ (.slice ad9 (k + 1) cp9)) (fun q hq => hk9.block q (World.ownsRow.lt HO9.out q hq).2 (fun e => by
          obtain ⟨cur, hc⟩ := owns_ty HO9.out _ hq
          subst e; rw [HX9.out] at hc; simp at hc))
        have hx10 := heap_setCell_arr w9 X 0 _ _ _ (.slice ad9 (k + 1) cp9) HX9.out
        have hb10 : Below w.heap.size w (w9.setCell ⟨X, 0, none⟩ (.slice ad9 (k + 1) cp9)) := (HB.out.trans (B8.out.mono hsw)).trans (kt1.trans kt2).below
        have HX10 := hid hx10
        have HO10 := hid hown9
        have HR10 := hid hrow9
        have HU10 := hid hup9
        have HB10 := hid hb10
        clear hx10 hown9 hrow9 hrow8 hup9 hb10 kt1 kt2 hk9 hgz hgb hgc hgm hzz
        go_wp2
        go_roundw
        case rel => exact ⟨k + 1, .slice ad9 (k + 1) cp9, l ++ [(gn, cp1)], by omega, by go_num, by rw [List.length_append, HLL.out]; rfl, HX10.out.trans (by simp), (by
          have := HO10.out
          rwa [show rowVals2 m.n l ++ [Value.slice (some ⟨gn, 0, none⟩) m.n cp1] = rowVals2 m.n (l ++ [(gn, cp1)]) by simp [rowVals2]] at this), HU10.out, HR10.out, HB10.out⟩
        case measure => simp [intOf]; omega
    · have e : k = m.r := by omega
      have hki : ¬ (k : Int) < (m.r : Int) := by omega
      have hHO := HO.out
      rw [e] at hHO
      obtain ⟨bc, cc, zc, hsl, hc1, hc2, hc3, hc4, hc5⟩ := owns_at hHO (by omega)
      obtain ⟨bu, cu, zu, hsu, hu1, hu2, hu3, hu4, hu5⟩ := owns_at HU.out (by omega)
      simp only [Value.slice.injEq] at hsl hsu
      obtain ⟨rfl, -, rfl⟩ := hsl
      obtain ⟨rfl, -, rfl⟩ := hsu
      have hll := HLL.out
      rw [e] at hll
      have HQ := hid (show RxAt wr w.heap.size ⟨X, bc, jc, bu, uc, fun i => (l.map Prod.fst).getD i 0, fun i => (l.map Prod.snd).getD i 0⟩ m by
        have hat : ∀ i, i < m.r → l[i]? = some ((l.map Prod.fst).getD i 0, (l.map Prod.snd).getD i 0) := fun i hi => by
          rw [List.getD_eq_getElem?_getD, List.getD_eq_getElem?_getD, List.getElem?_map, List.getElem?_map, List.getElem?_eq_getElem (by omega)]; rfl
        refine ⟨by rw [← e]; exact HXB.out, ⟨zc, hc1, fun i hi => hc5 i _ hi (by unfold rowVals2; rw [List.getElem?_map, hat i hi]; rfl)⟩, fun i hi => HRW.out.at_ i _ (hat i hi), ⟨zu, hu1, fun i hi => hu5 i _ hi (by unfold upVals; rw [List.getElem?_map, List.getElem?_range hi]; rfl)⟩, fun i j hi hj he => getD_inj' HRW.out.nd (by simp; omega) (by simp; omega) he, HXL.out, hc2, hu2, fun i hi => (HRW.out.low _ (List.mem_of_getElem? (hat i hi))).1, hc3, hc4, hu3, hu4, fun i hi => (HRW.out.low _ (List.mem_of_getElem? (hat i hi))).2, hr1, hr8, hn1, hn16, HX.out.c32⟩)
      clear hc1 hc2 hc3 hc4 hc5 hu1 hu2 hu3 hu4 hu5 hHO e hlt hll
      go_wp2
      go_ret
      exact ⟨_, rfl, HQ.out, HB.out⟩

end Go.Proofs.Ytnffmijanikjgaa
