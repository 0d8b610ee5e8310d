/-
  The document's matrix: Free.
  A slice of Stands that came in; one of them in a variable of its own; One behind a Put.
  Place and Remove, the program's and the document's, whole.
  Contracts of shuffle: shift.
  The document's matrix: Row.
  Remove, the program's and the document's, whole; the document's Next.
  The document's Jobs: each is put where it belongs.
  The document's matrix: Copy.
  The document's Fill.
  The program's and the document's matrix beside each other: what each call tells, of any row, node and job.
  Layer 12's law: is a matrix as the document's is?
  Layer 12's law: matrices that are nil are alike.
  A slice of layer 12's Ops that came in.
  Layer 12's law: both matrices, and both copies, side by side.
-/
import Derived.Test.YtdongghjchnpbaaRxD
import Derived.Deep.Slices
import Derived.ChangeSlices
import Derived.OpenShut
import Derived.Deep.MidRow
import Derived.Laws.Rows
import Derived.WalkSpells
import Derived.WalkLawsBesides
import Derived.Deep.RegionHeld3
import Derived.Deep.QuietTactic
import Derived.BigQuiet
import Derived.Test.YtdongghjchnpbaaShfA
import Derived.Test.YtdongghjchnpbaaAppR
import Derived.Test.YtdongghjchnpbaaRowV
import Derived.Test.YtdongghjchnpbaaRowJb
import Derived.Test.YtdongghjchnpbaaRowW
import Derived.Test.YtdongghjchnpbaaRowX
import Derived.StillTail
import Derived.StillTailTactics
namespace Go.Proofs.Ytdongghjchnpbaa
open Go.RowKit Go.Shelf
set_option linter.unusedVariables false
set_option linter.unusedSimpArgs false

def Mx.freeTo (m : Mx) (i k : Nat) : List Nat := (List.range k).filter fun q => m.c (16 * i + q) == 0 && !m.d q
theorem freeTo_all (m : Mx) (i : Nat) : m.freeTo i m.n = m.free i := rfl
theorem freeTo_succ (m : Mx) (i k : Nat) : m.freeTo i (k + 1) = if m.c (16 * i + k) = 0 ∧ m.d k = false then m.freeTo i k ++ [k] else m.freeTo i k := by
  unfold Mx.freeTo
  rw [List.range_succ, List.filter_append]
  by_cases h : m.c (16 * i + k) = 0 <;> cases hd : m.d k <;> simp [h, hd]
theorem freeTo_len (m : Mx) (i k : Nat) : (m.freeTo i k).length ≤ k := Nat.le_trans (List.length_filter_le _ _) (by simp)

theorem rfree_nil (w : World) (row : Int) :
    Calls Try.prog 39 #[.pointer none, .int .i64 row] w fun e w' => e = .returned (.slice none 0 0) ∧ w = w' := by
  go_enter Try.func39, Try.ntmps39
  go_wp2_with fail
  go_ret
  exact ⟨rfl, rfl⟩

theorem rfree_no (w : World) (lo : Nat) (G : Geo) (m : Mx) (row : Int) (h : RxAt w lo G m) (hr : row < 0 ∨ (m.r : Int) ≤ row) :
    Calls Try.prog 39 #[.pointer (some ⟨G.x, 0, none⟩), .int .i64 row] w fun e w' => e = .returned (.slice none 0 0) ∧ w = w' := by
  have hc0 := h.c0
  by_cases hlow : row < 0
  · have d1 : ¬ (0 : Int) ≤ row := by omega
    clear hr h
    go_enter Try.func39, Try.ntmps39
    go_wp2_with fail
    go_ret
    exact ⟨rfl, rfl⟩
  · have d1 : (0 : Int) ≤ row := by omega
    have d2 : ¬ row < (m.r : Int) := by omega
    clear hr hlow h
    go_enter Try.func39, Try.ntmps39
    go_wp2_with fail
    go_ret
    exact ⟨rfl, rfl⟩

set_option maxRecDepth 100000 in
set_option maxHeartbeats 4000000 in
theorem rfree_any (w : World) (lo : Nat) (G : Geo) (m : Mx) (i : Nat) (h : RxAt w lo G m) (hi : i < m.r) :
    Calls Try.prog 39 #[.pointer (some ⟨G.x, 0, none⟩), .int .i64 i] w fun e w' => ∃ v, e = .returned v ∧ w'.ownsRow w.heap.size 3 1 v (m.free i).length ((m.free i).map iv) ∧ Below w.heap.size w w' := by
  have hc0 := h.c0
  have hrow := h.row i hi
  obtain ⟨hcp1, hcp2⟩ := h.cpn i hi
  have hr8 := h.r8
  have hn16 := h.n16
  have hri : (m.r : Int) ≤ 8 := by omega
  have hni : (m.n : Int) ≤ 16 := by omega
  have hccr := h.ccr
  have hccm := h.ccm
  have hii : (i : Int) < (m.r : Int) := by omega
  have hi0 : (0 : Int) ≤ (i : Int) := by omega
  have HX := hid h
  clear h
  go_enter Try.func39, Try.ntmps39
  go_wp2_with fail
  go_loopw [5, 31] (fun v q wr => ∃ k : Nat, k ≤ m.n ∧ q = .int .i64 k ∧ wr.ownsRow w.heap.size 3 1 v (m.freeTo i k).length ((m.freeTo i k).map iv) ∧ Below w.heap.size w wr) (fun _ q _ => m.n - (intOf q).toNat)
  case atStart => exact ⟨0, Nat.zero_le _, rfl, World.ownsRow_nil _ _ _ _, Below.refl _ _⟩
  case round =>
    obtain ⟨k, hk, rfl, hv, hB⟩ := hrel
    have HV := hid hv
    have HK := hid hB
    have hs0 := hB.size
    have hx2 := HX.out.below hB (Nat.le_refl _)
    have hol := freeTo_len m i k
    have HS := hid (freeTo_succ m i k)
    by_cases hkl : k < m.n
    · have hki : (k : Int) < (m.n : Int) := by omega
      have hcell := hx2.cell i k hi hkl
      have hup := hx2.up k hkl
      have hc1 := hx2.c1
      have hcur := hx2.cur
      have hcum := hx2.cum
      generalize hol' : (m.freeTo i k).length = ol at *
      have HOL := hid hol'
      clear hv hB hx2 hol'
      by_cases hz : m.c (16 * i + k) = 0
      · rw [hz] at hcell
        cases hd : m.d k with
        | false =>
          have HS2 := hid (show m.freeTo i (k + 1) = m.freeTo i k ++ [k] by rw [HS.out, if_pos ⟨hz, hd⟩])
          rw [hd] at hup
          have hof := hid (owns_below HV.out ((Below.refl _ _).alloc (Nat.le_refl _) (.cells #[.int .i64 (k : Nat)] 3)))
          have hsrc := hid (SrcC.lit wr #[.int .i64 (k : Nat)] 3 1 [iv k] rfl)
          clear hz hd
          go_wp2_with (at_builtin; (refine appsw (by rfl) 34 3 (.tmp 47) (.tmp 49) rfl w.heap.size 1 8 _ Try.underlying34 Try.infoInt rfl (by decide) _ _ ol 1 (ol + 1) _ _ rfl rfl hof.out hsrc.out rfl (by intro y hy; rw [List.mem_singleton] at hy; subst hy; rfl) rfl (by omega) (by omega) (by simp; omega) ?_); intro ad9 cp9 wA hoA hgA; have HOA := hid hoA; have HGA := hid hgA; clear hoA hgA)
          have hbA : Below w.heap.size w wA := (HK.out.alloc (by omega) (.cells #[.int .i64 (k : Nat)] 3)).grown HGA.out (by simp; omega) (fun g hg => (World.ownsRow.lt HV.out g hg).1)
          have HBA := hid hbA
          clear hbA
          go_wp2
          go_roundw
          case rel => exact ⟨k + 1, hkl, by go_num, by rw [HS2.out, List.length_append, HOL.out, List.map_append]; exact HOA.out, HBA.out⟩
          case measure => simp [intOf]; omega
        | true =>
          have HS2 := hid (show m.freeTo i (k + 1) = m.freeTo i k by rw [HS.out, if_neg (by rw [hd]; simp)])
          rw [hd] at hup
          clear hz hd
          go_wp2_with fail
          go_roundw
          case rel => exact ⟨k + 1, hkl, by go_num, by rw [HS2.out, HOL.out]; exact HV.out, HK.out⟩
          case measure => simp [intOf]; omega
      · have HS2 := hid (show m.freeTo i (k + 1) = m.freeTo i k by rw [HS.out, if_neg (fun h => hz h.1)])
        have hne1 : (((m.c (16 * i + k) : Nat) : Int) == 0) = false := by simp; omega
        generalize m.c (16 * i + k) = cv at *
        clear hz
        go_wp2_with fail
        go_roundw
        case rel => exact ⟨k + 1, hkl, by go_num, by rw [HS2.out, HOL.out]; exact HV.out, HK.out⟩
        case measure => simp [intOf]; omega
    · have e : k = m.n := by omega
      have HV2 := hid (show wr.ownsRow w.heap.size 3 1 _ (m.free i).length ((m.free i).map iv) from by have h1 := hv; rw [e, freeTo_all] at h1; exact h1)
      have hki : ¬ (k : Int) < (m.n : Int) := by omega
      clear e hkl hv hB hx2
      go_wp2_with fail
      go_ret
      exact ⟨_, rfl, HV2.out, HK.out⟩

end Go.Proofs.Ytdongghjchnpbaa

namespace Go.Proofs.Ytdongghjchnpbaa
open Go.RowKit Go.ChangeShapes Go.Deep
set_option linter.unusedVariables false

/-- What the walk is told of a slice of Stands that came in. -/
def IsStands (w : World) (a : Option Addr) (len cap : Nat) : Prop :=
  (a = none ∧ len = 0 ∧ cap = 0) ∨
  ∃ x, a = some x ∧ len ≤ cap ∧ cap ≤ maxLen ∧ ∀ r, r < len → ∃ (d n : Int),
    w.cell? (x.add (r * 2)) = some (.int .u8 d) ∧ (Lit.int .u8 d).wf = true ∧ w.cell? (x.add (r * 2 + 1)) = some (.int .u16 n) ∧ (Lit.int .u16 n).wf = true

theorem IsStands.bounds {w : World} {a : Option Addr} {len cap : Nat} (h : IsStands w a len cap) : len ≤ cap ∧ cap ≤ 9223372036854775807 := by
  rcases h with ⟨rfl, rfl, rfl⟩ | ⟨x, rfl, h1, h2, _⟩
  · exact ⟨Nat.le_refl _, by omega⟩
  · unfold maxLen at h2
    exact ⟨h1, by omega⟩

abbrev scells (d n : Nat) : Array Value := #[.int .u8 (d : Nat), .int .u16 (n : Nat)]

theorem IsStands.at {w : World} {a : Option Addr} {len cap : Nat} (h : IsStands w a len cap) (j : Nat) (hj : j < len) :
    ∃ b off, a = some ⟨b, off, none⟩ ∧ b < w.heap.size ∧ ∃ (d n : Nat), w.rangeAt b (off + j * 2) (scells d n).toList ∧ d < 256 ∧ n < 65536 := by
  rcases h with ⟨_, rfl, _⟩ | ⟨x, rfl, h1, h2, hr⟩
  · omega
  · obtain ⟨b, off, spot⟩ := x
    obtain ⟨d, n, c0, wd, c1, wn⟩ := hr j hj
    obtain ⟨_, _, k0, _⟩ := hr 0 (by omega)
    have hs : spot = none := by simpa [Addr.add] using World.cell?_spot k0
    subst hs
    have hb : b < w.heap.size := by
      have := World.block_lt_of_cell? _ _ k0
      simpa [Addr.add] using this
    have bd := bounds_u8 wd
    have bn := bounds_u16 wn
    obtain ⟨d, rfl⟩ := Int.eq_ofNat_of_zero_le (show 0 ≤ d by omega)
    obtain ⟨n, rfl⟩ := Int.eq_ofNat_of_zero_le (show 0 ≤ n by omega)
    rw [Addr.add_lit] at c0 c1
    refine ⟨b, off, rfl, hb, d, n, fun i v hv => ?_, by omega, by omega⟩
    have hi : i < 2 := by
      have := (List.getElem?_eq_some_iff.1 hv).1
      simpa using this
    rw [Nat.add_assoc]
    match i, hi, hv with
    | 0, _, e => exact c0.trans e
    | 1, _, e => exact c1.trans e

theorem IsStands.below {w w' : World} {a : Option Addr} {len cap : Nat} (h : IsStands w a len cap) (hb : Below w.heap.size w w') : IsStands w' a len cap := by
  rcases h with h | ⟨x, rfl, h1, h2, hr⟩
  · exact .inl h
  · refine .inr ⟨x, rfl, h1, h2, fun r hr' => ?_⟩
    obtain ⟨d, n, c0, wd, c1, wn⟩ := hr r hr'
    refine ⟨d, n, ?_, wd, ?_, wn⟩
    · rw [hb.cell (World.block_lt_of_cell? _ _ c0)]; exact c0
    · rw [hb.cell (World.block_lt_of_cell? _ _ c1)]; exact c1

theorem fit_all {m : Mx} {i : Nat} {l : List Nat} (h : m.fit i l = true) : ∀ n ∈ l, m.c (16 * i + n) = 0 := by
  intro n hn
  unfold Mx.fit at h
  rw [List.all_eq_true] at h
  simpa using h n hn

theorem rising_nodup {l : List Nat} (h : l.Pairwise (· < ·)) : l.Nodup := h.imp fun h => by omega

/-- Who has which nodes, behind a Put. -/
theorem stand_own {m : Mx} {i j : Nat} {l : List Nat} (hn : m.n ≤ 16) (hj : j ≠ 0) (hl : OkL m.n l) (hw : m.where j = none) (hf : m.fit i l = true) (hi : i < m.r) {i' j' : Nat} (hi' : i' < m.r) (hj' : j' ≠ 0) :
    (m.stand i l j).own i' j' = if j' = j then (if i' = i then l else []) else m.own i' j' := by
  have hl16 : ∀ n ∈ l, n < 16 := fun n hn' => by have := hl.lt n hn'; omega
  have hno := Mx.where_none hw hj
  by_cases e : j' = j
  · subst e
    rw [if_pos rfl]
    by_cases ei : i' = i
    · subst ei
      rw [if_pos rfl]
      have h1 : (m.stand i' l j').own i' j' = (List.range m.n).filter (fun k => decide (k ∈ l)) := by
        unfold Mx.own Mx.at
        rw [Mx.stand_n]
        apply List.filter_congr
        intro k hk
        rw [List.mem_range] at hk
        rw [Mx.stand_cell _ _ _ _ _ _ hl16 (by omega)]
        by_cases hk2 : k ∈ l
        · rw [if_pos ⟨rfl, hk2⟩]; simp [hk2]
        · rw [if_neg (fun h => hk2 h.2)]
          have : m.c (16 * i' + k) ≠ j' := fun h => by
            have h2 : k ∈ m.own i' j' := own_mem.2 ⟨hk, h⟩
            rw [hno i' hi] at h2; cases h2
          simp [hk2, this]
      rw [h1]
      refine filter_sub ?_ List.nodup_range
      have h2 : l.Sublist (List.range m.n) := by
        have h3 := hl.rising
        have h4 : (List.range m.n).filter (fun k => decide (k ∈ l)) = l := by
          apply List.Perm.eq_of_pairwise (le := fun a b => decide (a < b) = true) (fun a b _ _ h1 h2 => by simp at h1 h2; omega)
          · exact List.Pairwise.imp (by intro a b h; simpa using h) (List.Pairwise.sublist List.filter_sublist List.pairwise_lt_range)
          · exact h3.imp (by intro a b h; simpa using h)
          · refine (List.perm_ext_iff_of_nodup (List.Nodup.sublist List.filter_sublist List.nodup_range) (rising_nodup h3)).2 fun a => ?_
            simp only [List.mem_filter, List.mem_range, decide_eq_true_eq]
            exact ⟨fun h => h.2, fun h => ⟨hl.lt a h, h⟩⟩
        rw [← h4]
        exact List.filter_sublist
      exact h2
    · rw [if_neg ei]
      refine own_nil fun k hk => ?_
      rw [Mx.stand_n] at hk
      rw [Mx.stand_cell _ _ _ _ _ _ hl16 (by omega), if_neg (fun h => ei h.1)]
      intro h
      have h2 : k ∈ m.own i' j' := own_mem.2 ⟨hk, h⟩
      rw [hno i' hi'] at h2; cases h2
  · rw [if_neg e]
    refine own_eq (Mx.stand_n _ _ _ _) fun k hk => ?_
    rw [Mx.stand_cell _ _ _ _ _ _ hl16 (by omega)]
    by_cases h1 : i' = i ∧ k ∈ l
    · rw [if_pos h1]
      have := fit_all hf k h1.2
      rw [h1.1, this]
      exact ⟨fun h => absurd h.symm e, fun h => absurd h.symm hj'⟩
    · rw [if_neg h1]

theorem One.stand {m : Mx} {i j : Nat} {l : List Nat} (ho : One m) (hn : m.n ≤ 16) (hj : j ≠ 0) (hl : OkL m.n l) (hw : m.where j = none) (hf : m.fit i l = true) (hi : i < m.r) : One (m.stand i l j) := by
  intro j' a b hj' ha hb h h'
  rw [Mx.stand_r] at ha hb
  rw [stand_own hn hj hl hw hf hi ha hj'] at h
  rw [stand_own hn hj hl hw hf hi hb hj'] at h'
  by_cases e : j' = j
  · rw [if_pos e] at h h'
    by_cases e1 : a = i
    · by_cases e2 : b = i
      · rw [e1, e2]
      · rw [if_neg e2] at h'; exact absurd rfl h'
    · rw [if_neg e1] at h; exact absurd rfl h
  · rw [if_neg e] at h h'
    exact ho j' a b hj' ha hb h h'

theorem One.putM {m : Mx} {j : Nat} {row : Int} {l : List Int} (ho : One m) (hn : m.n ≤ 16) : One (m.putM j row l) := by
  rcases put_cases m j row l with ⟨_, _, hM⟩ | ⟨i, k, hj, rfl, hi, rfl, hk, h3⟩
  · rw [hM]; exact ho
  · rcases h3 with ⟨_, _, hM⟩ | ⟨_, _, _, hM⟩ | ⟨hw, hf, _, hM⟩
    · rw [hM]; exact ho
    · rw [hM]; exact ho
    · rw [hM]; exact ho.stand hn hj hk hw hf hi

theorem putM_r (m : Mx) (j : Nat) (row : Int) (l : List Int) : (m.putM j row l).r = m.r := by
  unfold Mx.putM; split
  · exact Mx.stand_r _ _ _ _
  · rfl
theorem putM_n (m : Mx) (j : Nat) (row : Int) (l : List Int) : (m.putM j row l).n = m.n := by
  unfold Mx.putM; split
  · exact Mx.stand_n _ _ _ _
  · rfl

theorem One.turn {m : Mx} {k : Nat} {u : Bool} (ho : One m) : One (m.turn k u) := ho

end Go.Proofs.Ytdongghjchnpbaa

namespace Go.Proofs.Ytdongghjchnpbaa
open Go.RowKit Go.Shelf
set_option linter.unusedVariables false
set_option linter.unusedSimpArgs false

theorem RdV.take {w : World} {a : Option Addr} {n cap : Nat} {xs : List Value} (h : RdV w (.slice a n cap) xs) (k : Nat) (hk : k ≤ xs.length) : RdV w (.slice a k cap) (xs.take k) := by
  have hkl : (xs.take k).length = k := by rw [List.length_take, Nat.min_eq_left hk]
  rcases h with ⟨e, h⟩ | ⟨b, off, cap', e, h1, h2, h3, h4⟩
  · simp only [Value.slice.injEq] at e
    obtain ⟨rfl, rfl, rfl⟩ := e
    subst h
    have : k = 0 := by simpa using hk
    subst this
    exact .inl ⟨rfl, rfl⟩
  · simp only [Value.slice.injEq] at e
    obtain ⟨rfl, rfl, rfl⟩ := e
    refine .inr ⟨b, off, cap, by rw [hkl], by rw [hkl]; omega, h2, h3, fun j x hj => ?_⟩
    have hjk := (List.getElem?_eq_some_iff.1 hj).1
    rw [hkl] at hjk
    rw [List.getElem?_take_of_lt hjk] at hj
    exact h4 j x hj

/-- What Place tells, and leaves. -/
def Mx.pl (m : Mx) (j : Nat) (k : Int) : Nat × List Nat × Nat × Mx :=
  if j = 0 ∨ k < 1 then (0, [], 1, m) else if (m.where j).isSome then (0, [], 7, m) else if (m.n : Int) < k then (0, [], 9, m)
  else match m.room k.toNat 0 m.r with
    | none => (0, [], 8, m)
    | some r => (r, (m.free r).take k.toNat, 0, m.stand r ((m.free r).take k.toNat) j)

theorem pl_arg {m : Mx} {j : Nat} {k : Int} (h : j = 0 ∨ k < 1) : m.pl j k = (0, [], 1, m) := by unfold Mx.pl; rw [if_pos h]
theorem pl_twice {m : Mx} {j r : Nat} {k : Int} (h : ¬ (j = 0 ∨ k < 1)) (hw : m.where j = some r) : m.pl j k = (0, [], 7, m) := by unfold Mx.pl; rw [if_neg h, hw]; rfl
theorem pl_wide {m : Mx} {j : Nat} {k : Int} (h : ¬ (j = 0 ∨ k < 1)) (hw : m.where j = none) (hk : (m.n : Int) < k) : m.pl j k = (0, [], 9, m) := by unfold Mx.pl; rw [if_neg h, hw]; simp [hk]
theorem pl_full {m : Mx} {j k : Nat} (h : ¬ (j = 0 ∨ (k : Int) < 1)) (hw : m.where j = none) (hk : k ≤ m.n) (hr : m.room k 0 m.r = none) : m.pl j k = (0, [], 8, m) := by
  unfold Mx.pl; rw [if_neg h, hw, if_neg (by simp), if_neg (by omega), Int.toNat_natCast, hr]
theorem pl_yes {m : Mx} {j k r : Nat} (h : ¬ (j = 0 ∨ (k : Int) < 1)) (hw : m.where j = none) (hk : k ≤ m.n) (hr : m.room k 0 m.r = some r) : m.pl j k = (r, (m.free r).take k, 0, m.stand r ((m.free r).take k) j) := by
  unfold Mx.pl; rw [if_neg h, hw, if_neg (by simp), if_neg (by omega), Int.toNat_natCast, hr]

def PlIs (p : Nat × List Nat × Nat × Mx) (e : Ending) (w' : World) : Prop :=
  ∃ v, e = .returned (.tuple #[.int .i64 (p.1 : Nat), v, .int .i64 (p.2.2.1 : Nat)]) ∧ RdV w' v (p.2.1.map iv)

theorem place_all (w : World) (b j : Nat) (k : Int) (m : Mx) (h : MxAt w b m) (hj2 : j < 4294967296) :
    Calls Try.prog 14 #[.pointer (some ⟨b, 0, none⟩), .int .u32 (j : Nat), .int .i64 k] w fun e w' => PlIs (m.pl j k) e w' ∧ MxAt w' b (m.pl j k).2.2.2 ∧ Keeps (fun i => i = b) w w' := by
  have hB : ∀ {w'}, Below w.heap.size w w' → MxAt w' b m ∧ Keeps (fun i => i = b) w w' := fun hb => ⟨h.below hb h.lt, Keeps.of_below hb fun i hi hge => absurd hi (by omega)⟩
  by_cases harg : j = 0 ∨ k < 1
  · rw [pl_arg harg]
    refine (place_arg w b j k harg).mono ?_
    rintro e w' ⟨rfl, rfl⟩
    exact ⟨⟨_, rfl, RdV.nil _⟩, h, Keeps.refl _ _⟩
  · have hj : j ≠ 0 := fun e => harg (.inl e)
    have hk : 1 ≤ k := by omega
    cases hw : m.where j with
    | some r =>
      rw [pl_twice harg hw]
      refine (place_twice w b j r k m h hj hk hw).mono ?_
      rintro e w' ⟨rfl, hb⟩
      exact ⟨⟨_, rfl, RdV.nil _⟩, hB hb⟩
    | none =>
      by_cases hwd : (m.n : Int) < k
      · rw [pl_wide harg hw hwd]
        refine (place_wide w b j k m h hj hk hw hwd).mono ?_
        rintro e w' ⟨rfl, hb⟩
        exact ⟨⟨_, rfl, RdV.nil _⟩, hB hb⟩
      · obtain ⟨kn, rfl⟩ := Int.eq_ofNat_of_zero_le (show 0 ≤ k by omega)
        cases hr : m.room kn 0 m.r with
        | none =>
          rw [pl_full harg hw (by omega) hr]
          refine (place_full w b j kn m h hj (by omega) hw (by omega) hr).mono ?_
          rintro e w' ⟨rfl, hb⟩
          exact ⟨⟨_, rfl, RdV.nil _⟩, hB hb⟩
        | some r =>
          rw [pl_yes harg hw (by omega) hr]
          refine (place_yes w b j kn r m h hj hj2 (by omega) hw (by omega) hr).mono ?_
          rintro e w' ⟨v, rfl, hv, hm, hkp⟩
          exact ⟨⟨v, rfl, RdV.of_own hv⟩, hm, hkp⟩

theorem putM_yes {m : Mx} {j i : Nat} {l : List Nat} (hj : j ≠ 0) (hi : i < m.r) (hl : OkL m.n l) (hw : m.where j = none) (hf : m.fit i l = true) : m.putE j (i : Nat) (l.map Int.ofNat) = 0 ∧ m.putM j (i : Nat) (l.map Int.ofNat) = m.stand i l j := by
  rcases put_cases m j (i : Nat) (l.map Int.ofNat) with ⟨hbad, _⟩ | ⟨i', k', _, hie, _, hke, _, h3⟩
  · rcases hbad with h | h | h
    · exact absurd h hj
    · omega
    · unfold OkL at hl; rw [hl] at h; cases h
  · have hi' : i' = i := by omega
    subst hi'
    have hk' : k' = l := by
      have h1 := congrArg (List.map Int.toNat) hke
      rw [List.map_map, List.map_map] at h1
      have h2 : ∀ q : List Nat, q.map (Int.toNat ∘ Int.ofNat) = q := fun q => by
        conv => rhs; rw [← List.map_id q]
        exact List.map_congr_left fun x _ => rfl
      rw [h2, h2] at h1
      exact h1.symm
    subst hk'
    rcases h3 with ⟨⟨r0, hw'⟩, _⟩ | ⟨_, hf', _⟩ | ⟨_, _, h4, h5⟩
    · rw [hw] at hw'; cases hw'
    · rw [hf] at hf'; cases hf'
    · exact ⟨h4, h5⟩

theorem free_okl {m : Mx} {r k : Nat} (hk : 1 ≤ k) (hkf : k ≤ (m.free r).length) : OkL m.n ((m.free r).take k) := by
  refine OkL.of ?_ (fun x hx => (free_mem.1 (List.mem_of_mem_take hx)).1) ?_
  · intro e
    have := congrArg List.length e
    rw [List.length_take, List.length_nil] at this
    omega
  · exact (List.Pairwise.sublist List.filter_sublist List.pairwise_lt_range : (m.free r).Pairwise (· < ·)).sublist (List.take_sublist _ _)

theorem free_fit {m : Mx} {r k : Nat} : m.fit r ((m.free r).take k) = true := by
  unfold Mx.fit
  rw [List.all_eq_true]
  intro x hx
  have := (free_mem.1 (List.mem_of_mem_take hx)).2.1
  simpa using this

theorem rplace_nil (w : World) (j : Nat) (k : Int) :
    Calls Try.prog 15 #[.pointer none, .int .u32 (j : Nat), .int .i64 k] w fun e w' => e = .returned (.tuple #[.int .i64 0, .slice none 0 0, .int .i64 6]) ∧ w = w' := by
  go_enter Try.func15, Try.ntmps15
  go_wp2_with fail
  go_ret3
  exact ⟨rfl, rfl⟩

theorem rplace_arg (w : World) (x j : Nat) (k : Int) (h : j = 0 ∨ k < 1) :
    Calls Try.prog 15 #[.pointer (some ⟨x, 0, none⟩), .int .u32 (j : Nat), .int .i64 k] w fun e w' => e = .returned (.tuple #[.int .i64 0, .slice none 0 0, .int .i64 1]) ∧ w = w' := by
  by_cases hj : j = 0
  · subst hj
    clear h
    go_enter Try.func15, Try.ntmps15
    go_wp2_with fail
    go_ret3
    exact ⟨rfl, rfl⟩
  · have hk : k < 1 := by omega
    have hj1 : ((j : Int) == 0) = false := by simp; omega
    clear h
    go_enter Try.func15, Try.ntmps15
    go_wp2_with fail
    go_ret3
    exact ⟨rfl, rfl⟩

set_option maxRecDepth 100000 in
set_option maxHeartbeats 4000000 in
theorem rplace_all (w : World) (lo : Nat) (G : Geo) (j : Nat) (k : Int) (m : Mx) (h : RxAt w lo G m) (hj2 : j < 4294967296) :
    Calls Try.prog 15 #[.pointer (some ⟨G.x, 0, none⟩), .int .u32 (j : Nat), .int .i64 k] w fun e w' => PlIs (m.pl j k) e w' ∧ RxAt w' lo G (m.pl j k).2.2.2 ∧ Keeps (G.own m.r) w w' := by
  have hB : ∀ w', Below w.heap.size w w' → RxAt w' lo G m ∧ Keeps (G.own m.r) w w' := fun w' hb => ⟨h.below hb (Nat.le_refl _), Keeps.of_below hb fun i hi hge => absurd hi (by omega)⟩
  by_cases harg : j = 0 ∨ k < 1
  · rw [pl_arg harg]
    refine (rplace_arg w G.x j k harg).mono ?_
    rintro e w' ⟨rfl, rfl⟩
    exact ⟨⟨_, rfl, RdV.nil _⟩, h, Keeps.refl _ _⟩
  · have hj : j ≠ 0 := fun e => harg (.inl e)
    have hk : 1 ≤ k := by omega
    have hj1 : ((j : Int) == 0) = false := by simp; omega
    have hk2 : ¬ k < 1 := by omega
    have HB := hid hB
    have HOF := hid (rof_any w lo G m j h)
    have HX := hid h
    cases hw : m.where j with
    | some r =>
      rw [pl_twice harg hw]
      rw [hw] at HOF
      clear h hB hw harg
      go_enter Try.func15, Try.ntmps15
      go_wp2_with fail
      refine HOF.out.mono ?_
      rintro e w1 ⟨v, rfl, -, hb1⟩
      have HB1 := hid hb1
      clear hb1
      go_wp2_with fail
      go_ret3
      exact ⟨⟨_, rfl, RdV.nil _⟩, HB.out _ HB1.out⟩
    | none =>
      rw [hw] at HOF
      have HW := hid hw
      by_cases hwd : (m.n : Int) < k
      · rw [pl_wide harg hw hwd]
        have hwd2 : k > (m.n : Int) := hwd
        clear h hB hw harg
        go_enter Try.func15, Try.ntmps15
        go_wp2_with fail
        refine HOF.out.mono ?_
        rintro e w1 ⟨v, rfl, -, hb1⟩
        have hx1 := HX.out.below hb1 (Nat.le_refl _)
        have HB1 := hid hb1
        have hc1 := hx1.c1
        have hcur := hx1.cur
        have hcum := hx1.cum
        clear hb1 hx1
        go_wp2_with fail
        go_ret3
        exact ⟨⟨_, rfl, RdV.nil _⟩, HB.out _ HB1.out⟩
      · obtain ⟨kn, rfl⟩ := Int.eq_ofNat_of_zero_le (show 0 ≤ k by omega)
        have hwd2 : ¬ (kn : Int) > (m.n : Int) := hwd
        have hwd3 : decide ((kn : Int) > (m.n : Int)) = false := decide_eq_false hwd
        have hwd4 : decide ((m.n : Int) < (kn : Int)) = false := decide_eq_false hwd
        have hwd5 : decide (m.n < kn) = false := by simp; omega
        have hkn : kn ≤ m.n := by omega
        have hk1 : 1 ≤ kn := by omega
        have HPL : ∀ r, m.room kn 0 m.r = some r → m.pl j kn = (r, (m.free r).take kn, 0, m.stand r ((m.free r).take kn) j) := fun r hr => pl_yes harg hw hkn hr
        have HPN : m.room kn 0 m.r = none → m.pl j kn = (0, [], 8, m) := fun hr => pl_full harg hw hkn hr
        have HPL := hid HPL
        have HPN := hid HPN
        have hr8 := h.r8
        have hn16 := h.n16
        clear h hB hw harg
        go_enter Try.func15, Try.ntmps15
        go_wp2_with fail
        refine HOF.out.mono ?_
        rintro e w1 ⟨v, rfl, -, hb1⟩
        have hx1 := HX.out.below hb1 (Nat.le_refl _)
        have HX1 := hid hx1
        have HB1 := hid hb1
        have hc0 := hx1.c0
        have hc1 := hx1.c1
        have hcur := hx1.cur
        have hcum := hx1.cum
        have hccr := hx1.ccr
        have hccm := hx1.ccm
        clear hb1 hx1
        go_wp2_with fail
        go_loopw [42] (fun i wr => ∃ q : Nat, q ≤ m.r ∧ i = .int .i64 q ∧ (∀ t, t < q → (m.free t).length < kn) ∧ Below w1.heap.size w1 wr) (fun i _ => m.r - (intOf i).toNat)
        case atStart => exact ⟨0, Nat.zero_le _, rfl, fun t ht => absurd ht (Nat.not_lt_zero _), Below.refl _ _⟩
        case round =>
          obtain ⟨q, hq, rfl, hall, hb⟩ := hrel
          have HA := hid hall
          have HBR := hid hb
          have HXR := hid (HX1.out.below hb (Nat.le_refl _))
          clear hall hb
          by_cases hlt : q < m.r
          · have hqi : (q : Int) < (m.r : Int) := by omega
            have HFR := hid (rfree_any wr lo G m q HXR.out hlt)
            have hfl : (m.free q).length ≤ 16 := Nat.le_trans (m.at_len _) hn16
            by_cases hge : kn ≤ (m.free q).length
            · have hgei : (kn : Int) ≤ ((m.free q).length : Int) := by omega
              have hrm : m.room kn 0 m.r = some q := by
                cases hro : m.room kn 0 m.r with
                | none => exact absurd (Mx.room_none _ _ hro q (Nat.zero_le _) (by omega)) (by omega)
                | some r =>
                  obtain ⟨_, h1, h2, h3⟩ := Mx.room_some _ _ _ hro
                  rcases Nat.lt_trichotomy r q with h | h | h
                  · exact absurd (HA.out r h) (by omega)
                  · rw [h]
                  · exact absurd (h3 q (Nat.zero_le _) h) (by omega)
              have HPE := hid (HPL.out q hrm)
              have HPM := hid (putM_yes (by intro e; simp [e] at hj1) hlt (free_okl hk1 hge) HW.out (free_fit (m := m) (r := q) (k := kn)))
              have hgn : kn ≤ (m.free q).length := hge
              generalize hfn : (m.free q).length = fn at *
              clear hrm hge
              go_upto_region 15 with (first
                | (go_at_call 39; (with_reducible refine HFR.out.mono ?_); rintro e w2 ⟨v2, rfl, hv2, hb2⟩; obtain ⟨a2, c2, rfl, hc2a, hc2b⟩ := owns_slice hv2; have HV2 := hid hv2; have HB2 := hid (HBR.out.trans (hb2.mono HBR.out.size)); have HX2 := hid (HXR.out.below hb2 (Nat.le_refl _)); have HGE := hid (fun q hq => (World.ownsRow.lt hv2 q hq).1); have HRS := hid (hb2.size); clear hv2 hb2)
                | fail)
              have hrt : RdV w2 (.slice a2 kn c2) (((m.free q).take kn).map iv) := by rw [List.map_take]; exact (RdV.of_own HV2.out).take kn (by rw [List.length_map, hfn]; exact hgn)
              have hrt2 : RdV w2 (.slice a2 kn c2) ((((m.free q).take kn).map Int.ofNat).map iw) := by rw [iv_map]; exact hrt
              have HPU := hid (rput_all w2 lo G j (q : Nat) _ (((m.free q).take kn).map Int.ofNat) m HX2.out hrt2 (by
                rintro g o n' c' e ⟨t, ht, rfl⟩
                simp only [Value.slice.injEq] at e
                obtain ⟨e1, -, -⟩ := e
                subst e1
                rcases owns_shape HV2.out with ⟨h1, _⟩ | ⟨g9, c9, h1, h2, _⟩
                · cases h1
                · simp only [Value.slice.injEq, Option.some.injEq, Addr.mk.injEq] at h1
                  have := HXR.out.lt (G.g t) (.inr (.inr (.inr ⟨t, ht, rfl⟩)))
                  omega) hj2)
              rw [HPM.out.1, HPM.out.2] at HPU
              have HRT := hid hrt
              have HAN := hid (show ∀ g o, a2 = some ⟨g, o, none⟩ → ¬ G.own m.r g from by
                rintro g o e ⟨t, ht, rfl⟩
                subst e
                rcases owns_shape HV2.out with ⟨h1, _⟩ | ⟨g9, c9, h1, h2, _⟩
                · cases h1
                · simp only [Value.slice.injEq, Option.some.injEq, Addr.mk.injEq] at h1
                  have := HXR.out.lt (G.g t) (.inr (.inr (.inr ⟨t, ht, rfl⟩)))
                  omega)
              have hkc : kn ≤ c2 := by omega
              clear hrt hrt2
              go_upto_region 16 with (first
                | (go_at_call 18; (refine HPU.out.mono ?_); rintro e w3 ⟨rfl, hx3, hk3⟩; have HX3 := hid hx3; have HK3 := hid hk3; clear hx3 hk3)
                | fail)
              have HR3 := hid (HRT.out.blk HK3.out HAN.out)
              go_quiet (fail)
              go_wp2_with fail
              go_ret3
              rw [HPE.out]
              exact ⟨⟨_, rfl, HR3.out.drewN _⟩, HX3.out.below ⟨rfl, rfl, rfl, Nat.le_refl _, fun _ _ => rfl⟩ (Nat.le_refl _), (Keeps.of_below (HB1.out.trans (HB2.out.mono HB1.out.size)) fun i hi hge => absurd hi (by omega)).trans (HK3.out.trans (Keeps.of_below (show Below w3.heap.size w3 (w3.drewN nq) from ⟨rfl, rfl, rfl, Nat.le_refl _, fun _ _ => rfl⟩) fun i hi hge => absurd hi (by omega)))⟩
            · have hgei : ¬ (kn : Int) ≤ ((m.free q).length : Int) := by omega
              have HA2 := hid (show ∀ t, t < q + 1 → (m.free t).length < kn from fun t ht => by
                by_cases e : t = q
                · subst e; omega
                · exact HA.out t (by omega))
              generalize hfn : (m.free q).length = fn at *
              clear hge
              go_wp2_with (first
                | (go_at_call 39; (with_reducible refine HFR.out.mono ?_); rintro e w2 ⟨v2, rfl, hv2, hb2⟩; obtain ⟨a2, c2, rfl, hc2a, hc2b⟩ := owns_slice hv2; have HB2 := hid (HBR.out.trans (hb2.mono HBR.out.size)); clear hv2 hb2)
                | fail)
              go_roundw
              case rel => exact ⟨q + 1, by omega, by go_num, HA2.out, HB2.out⟩
              case measure => simp [intOf]; omega
          · have hqi : ¬ (q : Int) < (m.r : Int) := by omega
            have hrn : m.room kn 0 m.r = none := by
              cases hro : m.room kn 0 m.r with
              | none => rfl
              | some r =>
                obtain ⟨_, h1, h2, _⟩ := Mx.room_some _ _ _ hro
                exact absurd (HA.out r (by omega)) (by omega)
            have HPE := hid (HPN.out hrn)
            clear hrn
            go_wp2_with fail
            go_ret3
            rw [HPE.out]
            exact ⟨⟨_, rfl, RdV.nil _⟩, HB.out _ (HB1.out.trans (HBR.out.mono HB1.out.size))⟩

end Go.Proofs.Ytdongghjchnpbaa

namespace Go.Proofs.Ytdongghjchnpbaa
open Go.RowKit Go.Shelf
set_option linter.unusedVariables false

/-- A move's cells. -/
def mvc (x : Nat × Nat × Nat) : List Value := [uv x.1, iv x.2.1, iv x.2.2]
def mvcs (l : List (Nat × Nat × Nat)) : List Value := l.flatMap mvc
theorem mvcs_append (l k : List (Nat × Nat × Nat)) : mvcs (l ++ k) = mvcs l ++ mvcs k := by simp [mvcs]
theorem mvcs_len (l : List (Nat × Nat × Nat)) : (mvcs l).length = l.length * 3 := by
  induction l with
  | nil => rfl
  | cons x l ih => rw [show mvcs (x :: l) = mvc x ++ mvcs l from rfl, List.length_append, ih, show (mvc x).length = 3 from rfl, List.length_cons]; omega
theorem mvcs_one (l : List (Nat × Nat × Nat)) : ∀ y ∈ mvcs l, y.oneCell' = true := by
  intro y hy
  unfold mvcs at hy
  rw [List.mem_flatMap] at hy
  obtain ⟨x, _, hy⟩ := hy
  simp only [mvc, List.mem_cons, List.not_mem_nil, or_false] at hy
  rcases hy with rfl | rfl | rfl <;> rfl

theorem own_rising (m : Mx) (i j : Nat) : (m.own i j).Pairwise (· < ·) := List.Pairwise.sublist List.filter_sublist List.pairwise_lt_range

theorem shift_snoc (m : Mx) (f t : Nat) (J : List Nat) (j : Nat) : m.shift f t (J ++ [j]) = (m.shift f t J).mv j f t := by simp [Mx.shift]
theorem shift_r (f t : Nat) : ∀ (J : List Nat) (m : Mx), (m.shift f t J).r = m.r
  | [], _ => rfl
  | j :: J, m => (shift_r f t J (m.mv j f t)).trans (mv_r _ _ _ _)
theorem shift_n (f t : Nat) : ∀ (J : List Nat) (m : Mx), (m.shift f t J).n = m.n
  | [], _ => rfl
  | j :: J, m => (shift_n f t J (m.mv j f t)).trans (mv_n _ _ _ _)

/-- Behind some moves the others may still go. -/
theorem shift_mid {f t : Nat} : ∀ (J1 : List Nat) {m : Mx} {J2 : List Nat}, m.n ≤ 16 → One m → (J1 ++ J2).Nodup → (∀ j ∈ J1 ++ J2, CanGo m j f t) → One (m.shift f t J1) ∧ ∀ j ∈ J2, CanGo (m.shift f t J1) j f t
  | [], m, J2, _, ho, _, hc => ⟨ho, hc⟩
  | j :: J1, m, J2, hn, ho, hd, hc => by
    rw [List.cons_append, List.nodup_cons] at hd
    have h0 := hc j (by simp)
    refine shift_mid J1 (m := m.mv j f t) (by rw [mv_n]; exact hn) (mv_one hn ho h0) hd.2 fun j' hj' => ?_
    exact h0.mv hn ho (hc j' (by rw [List.cons_append]; exact List.mem_cons_of_mem _ hj')) (fun e => hd.1 (e ▸ hj'))

/-- Behind its removal it stands nowhere. -/
theorem gone_where {m : Mx} {j f t : Nat} (hn : m.n ≤ 16) (ho : One m) (hc : CanGo m j f t) : (m.stand f (m.own f j) 0).where j = none := by
  refine where_none_of fun i hi => ?_
  rw [Mx.stand_r] at hi
  by_cases e : i = f
  · subst e; exact own_gone_self hn hc.j0
  · rw [own_gone hn hc.j0 (.inr e)]
    apply Classical.byContradiction
    intro h
    exact e (ho j i f hc.j0 hi hc.fr h hc.own)

theorem gone_fit {m : Mx} {j f t : Nat} (hn : m.n ≤ 16) (hc : CanGo m j f t) : (m.stand f (m.own f j) 0).fit t (m.own f j) = true := by
  unfold Mx.fit
  rw [List.all_eq_true]
  intro k hk
  rw [Mx.stand_cell _ _ _ _ _ _ (own_lt hn) (own_lt hn k hk)]
  rw [if_neg (fun h => hc.ne h.1.symm), hc.fits k hk]
  rfl

theorem own_okl {m : Mx} {j f : Nat} (h : m.own f j ≠ []) : OkL m.n (m.own f j) := OkL.of h (fun x hx => (own_mem.1 hx).1) (own_rising m f j)

theorem CanGo.j32 {w : World} {b : Nat} {m : Mx} {j f t : Nat} (h : MxAt w b m) (hc : CanGo m j f t) : j < 4294967296 := by
  obtain ⟨k, hk⟩ := List.exists_mem_of_ne_nil _ hc.own
  rw [← (own_mem.1 hk).2]
  exact h.c32 _

end Go.Proofs.Ytdongghjchnpbaa

namespace Go.Proofs.Ytdongghjchnpbaa
open Go.RowKit Go.Shelf
set_option linter.unusedVariables false

/-- Who stands at a row's first k nodes. -/
def Mx.rowTo (m : Mx) (i k : Nat) : List Nat := Go.Proofs.Ytdongghjchnpbaa.jobs (fun k => m.c (16 * i + k)) ((List.range k).filter fun k => m.c (16 * i + k) != 0)
theorem rowTo_all (m : Mx) (i : Nat) : m.rowTo i m.n = m.row i := rfl
theorem rowTo_zero {m : Mx} {i k : Nat} (h : m.c (16 * i + k) = 0) : m.rowTo i (k + 1) = m.rowTo i k := by
  unfold Mx.rowTo
  rw [List.range_succ, List.filter_append]
  simp [h]
theorem rowTo_succ {m : Mx} {i k : Nat} (h : m.c (16 * i + k) ≠ 0) : m.rowTo i (k + 1) = if (m.rowTo i k).contains (m.c (16 * i + k)) then m.rowTo i k else m.rowTo i k ++ [m.c (16 * i + k)] := by
  unfold Mx.rowTo
  rw [List.range_succ, List.filter_append, List.filter_cons_of_pos (by simpa using h), List.filter_nil, jobs_snoc]
theorem rowTo_mem {m : Mx} {i k j : Nat} : j ∈ m.rowTo i k ↔ ∃ q, q < k ∧ m.c (16 * i + q) ≠ 0 ∧ m.c (16 * i + q) = j := by
  refine (jobs_mem _ _ [] j).trans ?_
  constructor
  · rintro (h | ⟨q, hq, rfl⟩)
    · cases h
    · rw [List.mem_filter, List.mem_range] at hq
      exact ⟨q, hq.1, by simpa using hq.2, rfl⟩
  · rintro ⟨q, h1, h2, rfl⟩
    exact .inr ⟨q, List.mem_filter.2 ⟨List.mem_range.2 h1, by simpa using h2⟩, rfl⟩
theorem rowTo_len (m : Mx) (i k : Nat) : (m.rowTo i k).length ≤ k := Nat.le_trans (jobs_len _ _) (Nat.le_trans (List.length_filter_le _ _) (by simp))

/-- A job's least node. -/
theorem own_head {m : Mx} {i k : Nat} (hk : k < m.n) : ∃ y, (m.own i (m.c (16 * i + k)))[0]? = some y ∧ y ≤ k ∧ m.c (16 * i + y) = m.c (16 * i + k) ∧ ∀ q, q < y → m.c (16 * i + q) ≠ m.c (16 * i + k) := by
  have hm : k ∈ m.own i (m.c (16 * i + k)) := own_mem.2 ⟨hk, rfl⟩
  obtain ⟨y, ys, hy⟩ : ∃ y ys, m.own i (m.c (16 * i + k)) = y :: ys := by
    cases h : m.own i (m.c (16 * i + k)) with
    | nil => rw [h] at hm; cases hm
    | cons y ys => exact ⟨y, ys, rfl⟩
  have hr := own_rising m i (m.c (16 * i + k))
  rw [hy, List.pairwise_cons] at hr
  have hyo : y ∈ m.own i (m.c (16 * i + k)) := by rw [hy]; simp
  refine ⟨y, by rw [hy]; rfl, ?_, (own_mem.1 hyo).2, fun q hq e => ?_⟩
  · rw [hy] at hm
    rcases List.mem_cons.1 hm with h | h
    · omega
    · have := hr.1 k h; omega
  · have hq2 : q ∈ m.own i (m.c (16 * i + k)) := own_mem.2 ⟨by have := (own_mem.1 hyo).1; omega, e⟩
    rw [hy] at hq2
    rcases List.mem_cons.1 hq2 with h | h
    · omega
    · have := hr.1 q h; omega

theorem rrow_nil (w : World) (row : Int) :
    Calls Try.prog 51 #[.pointer none, .int .i64 row] w fun e w' => e = .returned (.slice none 0 0) ∧ w = w' := by
  go_enter Try.func51, Try.ntmps51
  go_wp2_with fail
  go_ret
  exact ⟨rfl, rfl⟩

theorem rrow_no (w : World) (lo : Nat) (G : Geo) (m : Mx) (row : Int) (h : RxAt w lo G m) (hr : row < 0 ∨ (m.r : Int) ≤ row) :
    Calls Try.prog 51 #[.pointer (some ⟨G.x, 0, none⟩), .int .i64 row] w fun e w' => e = .returned (.slice none 0 0) ∧ w = w' := by
  have hc0 := h.c0
  by_cases hlow : row < 0
  · have d1 : decide (row < 0) = true := by simpa using hlow
    clear hr hlow h
    go_enter Try.func51, Try.ntmps51
    go_wp2_with fail
    go_ret
    exact ⟨rfl, rfl⟩
  · have d1 : decide (row < 0) = false := by simpa using hlow
    have hh : (m.r : Int) ≤ row := by omega
    have d2 : decide (row ≥ (m.r : Int)) = true := by simpa using hh
    have d3 : decide ((m.r : Int) ≤ row) = true := by simpa using hh
    clear hr hlow h
    go_enter Try.func51, Try.ntmps51
    go_wp2_with fail
    go_ret
    exact ⟨rfl, rfl⟩

set_option maxHeartbeats 4000000 in
theorem rrow_any (w : World) (lo : Nat) (G : Geo) (m : Mx) (i : Nat) (h : RxAt w lo G m) (ho : One m) (hi : i < m.r) :
    Calls Try.prog 51 #[.pointer (some ⟨G.x, 0, none⟩), .int .i64 i] w fun e w' => ∃ v, e = .returned v ∧ w'.ownsRow w.heap.size 33 1 v (m.row i).length ((m.row i).map uv) ∧ Below w.heap.size w w' := by
  have hc0 := h.c0
  have hrow := h.row i hi
  obtain ⟨hcp1, hcp2⟩ := h.cpn i hi
  have hr8 := h.r8
  have hn16 := h.n16
  have hri : (m.r : Int) ≤ 8 := by omega
  have hni : (m.n : Int) ≤ 16 := by omega
  have hccr := h.ccr
  have hccm := h.ccm
  have hii : (i : Int) < (m.r : Int) := by omega
  have d1 : decide ((i : Int) < 0) = false := by simp
  have d2 : decide ((m.r : Int) ≤ (i : Int)) = false := by simp; omega
  have d3 : decide ((i : Int) ≥ (m.r : Int)) = false := by simp; omega
  have d4 : decide (m.r ≤ i) = false := by simp; omega
  have HX := hid h
  have HO := hid ho
  clear h ho
  go_enter Try.func51, Try.ntmps51
  go_wp2_with fail
  go_loopw [5, 34] (fun v q wr => ∃ k : Nat, k ≤ m.n ∧ q = .int .i64 k ∧ wr.ownsRow w.heap.size 33 1 v (m.rowTo i k).length ((m.rowTo i k).map uv) ∧ Below w.heap.size w wr) (fun _ q _ => m.n - (intOf q).toNat)
  case atStart => exact ⟨0, Nat.zero_le _, rfl, World.ownsRow_nil _ _ _ _, Below.refl _ _⟩
  case round =>
    obtain ⟨k, hk, rfl, hv, hB⟩ := hrel
    have HV := hid hv
    have HK := hid hB
    have hs0 := hB.size
    have HX2 := hid (HX.out.below hB (Nat.le_refl _))
    have hol := rowTo_len m i k
    obtain ⟨av, cv, rfl, hcv1, hcv2⟩ := owns_slice hv
    clear hv hB
    by_cases hkl : k < m.n
    · have hki : (k : Int) < (m.n : Int) := by omega
      have hcell := HX2.out.cell i k hi hkl
      obtain ⟨wq, hwq⟩ : ∃ wq, wq = wr := ⟨_, rfl⟩
      subst hwq
      by_cases hz : m.c (16 * i + k) = 0
      · have HS := hid (rowTo_zero hz)
        rw [hz] at hcell
        clear hz
        go_wp2_with fail
        refine (rof_any wq lo G m 0 HX2.out).mono ?_
        rintro e w2 ⟨v2, rfl, -, hb2⟩
        rw [show m.where 0 = none by unfold Mx.where; rw [if_pos rfl]]
        have HB2 := hid (HK.out.trans (hb2.mono hs0))
        have HV2 := hid (owns_below HV.out hb2)
        clear hb2
        generalize hrl : (m.rowTo i k).length = rl at *
        have HRL := hid hrl
        clear hrl
        go_wp2_with fail
        go_roundw
        case rel => exact ⟨k + 1, hkl, by go_num, by rw [HS.out, HRL.out]; exact HV2.out, HB2.out⟩
        case measure => simp [intOf]; omega
      · have hw : m.where (m.c (16 * i + k)) = some i := (where_iff HO.out).2 ⟨hz, hi, fun e => by
          have : k ∈ m.own i (m.c (16 * i + k)) := own_mem.2 ⟨hkl, rfl⟩
          rw [e] at this; cases this⟩
        have HW := hid hw
        have HZ := hid hz
        obtain ⟨y, hy1, hy2, hy3, hy4⟩ := own_head (i := i) hkl
        have HY1 := hid hy1
        have HY3 := hid hy3
        have HY4 := hid hy4
        have HS := hid (rowTo_succ hz)
        have HMEM := hid (fun j => rowTo_mem (m := m) (i := i) (k := k) (j := j))
        obtain ⟨x, hx⟩ : ∃ x, x = m.c (16 * i + k) := ⟨_, rfl⟩
        rw [← hx] at HW HY1 HY3 HY4 HS hcell
        have HXC := hid hx
        clear hw hz hy1 hy3 hy4 hx
        go_wp2_with fail
        refine (rof_any wq lo G m x HX2.out).mono ?_
        rintro e w2 ⟨v2, rfl, hv2, hb2⟩
        rw [HW.out]
        rw [Mx.nodes_of HW.out] at hv2
        have HB2 := hid (HK.out.trans (hb2.mono hs0))
        have HV2 := hid (owns_below HV.out hb2)
        have hs2 := hb2.size
        obtain ⟨g2, c2, rfl, hn1, hn2, hcy⟩ : ∃ g c, v2 = .slice (some ⟨g, 0, none⟩) (m.own i x).length c ∧ 1 ≤ (m.own i x).length ∧ c ≤ 9223372036854775807 ∧ w2.cell? ⟨g, 0, none⟩ = some (.int .i64 y) := by
          have hpos : 1 ≤ (m.own i x).length := by
            have := (List.getElem?_eq_some_iff.1 HY1.out).1
            omega
          rcases owns_shape hv2 with ⟨_, h0⟩ | ⟨g, c, rfl, _, _, _, h4⟩
          · omega
          · refine ⟨g, c, rfl, hpos, h4, ?_⟩
            have := World.ownsRow.cells hv2 (g := g) rfl 0 (iv y) (by rw [List.getElem?_map, HY1.out]; rfl)
            rwa [Addr.add_lit] at this
        clear hv2 hb2
        generalize (m.own i x).length = ol at *
        have hol1 : (1 : Int) ≤ (ol : Int) := by omega
        by_cases hyk : y = k
        · have HE := hid (show m.rowTo i (k + 1) = m.rowTo i k ++ [x] by
            rw [HS.out, if_neg]
            rw [List.contains_iff_mem]
            intro h
            obtain ⟨q, h1, _, h3⟩ := (HMEM.out x).1 h
            exact HY4.out q (by omega) h3)
          subst hyk
          have hof := hid (owns_below HV2.out ((Below.refl _ _).alloc (Nat.le_refl _) (.cells #[.int .u32 (x : Nat)] 33)))
          have hsrc := hid (SrcC.lit w2 #[.int .u32 (x : Nat)] 33 1 [uv x] rfl)
          generalize hrl : (m.rowTo i y).length = rl at *
          have HRL := hid hrl
          clear hrl
          go_wp2_with (at_builtin; (refine appsw (by rfl) 60 33 (.tmp 54) (.tmp 56) rfl w.heap.size 1 4 _ Try.underlying60 Try.infoU32 rfl (by decide) _ _ rl 1 (rl + 1) _ _ rfl rfl hof.out hsrc.out rfl (by intro z hz; rw [List.mem_singleton] at hz; subst hz; rfl) rfl (by omega) (by omega) (by simp; omega) ?_); intro ad9 cp9 wA hoA hgA; have HOA := hid hoA; have HGA := hid hgA; clear hoA hgA)
          have hbA : Below w.heap.size w wA := (HB2.out.alloc (by omega) (.cells #[.int .u32 (x : Nat)] 33)).grown HGA.out (by simp; omega) (fun g hg => (World.ownsRow.lt HV2.out g hg).1)
          have HBA := hid hbA
          clear hbA
          go_wp2
          go_roundw
          case rel => exact ⟨y + 1, hkl, by go_num, by rw [HE.out, List.length_append, HRL.out, List.map_append]; exact HOA.out, HBA.out⟩
          case measure => simp [intOf]; omega
        · have HE := hid (show m.rowTo i (k + 1) = m.rowTo i k by
            rw [HS.out, if_pos]
            rw [List.contains_iff_mem]
            exact (HMEM.out x).2 ⟨y, by omega, by rw [HY3.out, HXC.out]; exact HZ.out, HY3.out⟩)
          have e1 : ((y : Int) == (k : Int)) = false := by rw [beq_eq_false_iff_ne]; omega
          have e2 : decide (y = k) = false := by simpa using hyk
          have e3 : (y == k) = false := by simpa using hyk
          generalize hrl : (m.rowTo i k).length = rl at *
          have HRL := hid hrl
          clear hrl hyk
          go_wp2_with fail
          go_roundw
          case rel => exact ⟨k + 1, hkl, by go_num, by rw [HE.out, HRL.out]; exact HV2.out, HB2.out⟩
          case measure => simp [intOf]; omega
    · have e : k = m.n := by omega
      have HE := hid (show m.rowTo i k = m.row i by rw [e, rowTo_all])
      have hki : ¬ (k : Int) < (m.n : Int) := by omega
      clear hkl e
      go_wp2
      go_ret
      exact ⟨_, rfl, by rw [← HE.out]; exact HV.out, HK.out⟩

end Go.Proofs.Ytdongghjchnpbaa

namespace Go.Proofs.Ytdongghjchnpbaa
open Go.RowKit Go.Shelf
set_option linter.unusedVariables false
set_option linter.unusedSimpArgs false

/-- What Remove tells, and leaves. -/
def Mx.rmE (m : Mx) (j : Nat) : Nat := match m.where j with | none => 6 | some _ => 0
def Mx.rmM (m : Mx) (j : Nat) : Mx := match m.where j with | none => m | some r => m.stand r (m.own r j) 0
theorem rm_none {m : Mx} {j : Nat} (h : m.where j = none) : m.rmE j = 6 ∧ m.rmM j = m := by unfold Mx.rmE Mx.rmM; rw [h]; exact ⟨rfl, rfl⟩
theorem rm_some {m : Mx} {j r : Nat} (h : m.where j = some r) : m.rmE j = 0 ∧ m.rmM j = m.stand r (m.own r j) 0 := by unfold Mx.rmE Mx.rmM; rw [h]; exact ⟨rfl, rfl⟩

theorem remove_all (w : World) (b j : Nat) (m : Mx) (h : MxAt w b m) :
    Calls Try.prog 19 #[.pointer (some ⟨b, 0, none⟩), .int .u32 (j : Nat)] w fun e w' => e = .returned (.int .i64 (m.rmE j : Nat)) ∧ MxAt w' b (m.rmM j) ∧ Keeps (fun i => i = b) w w' := by
  cases hw : m.where j with
  | none =>
    rw [(rm_none hw).1, (rm_none hw).2]
    refine (remove_no w b j m h hw).mono ?_
    rintro e w' ⟨rfl, hb⟩
    exact ⟨rfl, h.below hb h.lt, Keeps.of_below hb fun i hi hge => absurd hi (by omega)⟩
  | some r =>
    rw [(rm_some hw).1, (rm_some hw).2]
    exact remove_yes w b j r m h hw

theorem rremove_nil (w : World) (j : Nat) :
    Calls Try.prog 20 #[.pointer none, .int .u32 (j : Nat)] w fun e w' => e = .returned (.int .i64 6) ∧ w = w' := by
  go_enter Try.func20, Try.ntmps20
  go_wp2_with fail
  refine (rof_nil w j).mono ?_
  rintro e w1 ⟨rfl, rfl⟩
  go_wp2_with fail
  go_ret
  exact ⟨rfl, rfl⟩

set_option maxRecDepth 100000 in
set_option maxHeartbeats 4000000 in
theorem rremove_all (w : World) (lo : Nat) (G : Geo) (j : Nat) (m : Mx) (h : RxAt w lo G m) :
    Calls Try.prog 20 #[.pointer (some ⟨G.x, 0, none⟩), .int .u32 (j : Nat)] w fun e w' => e = .returned (.int .i64 (m.rmE j : Nat)) ∧ RxAt w' lo G (m.rmM j) ∧ Keeps (G.own m.r) w w' := by
  have HOF := hid (rof_any w lo G m j h)
  have HX := hid h
  cases hw : m.where j with
  | none =>
    rw [(rm_none hw).1, (rm_none hw).2]
    rw [hw] at HOF
    clear h hw
    go_enter Try.func20, Try.ntmps20
    go_wp2_with fail
    refine HOF.out.mono ?_
    rintro e w1 ⟨v, rfl, -, hb1⟩
    have HB1 := hid hb1
    clear hb1
    go_wp2_with fail
    go_ret
    exact ⟨rfl, HX.out.below HB1.out (Nat.le_refl _), Keeps.of_below HB1.out fun i hi hge => absurd hi (by omega)⟩
  | some r =>
    rw [(rm_some hw).1, (rm_some hw).2]
    rw [hw, Mx.nodes_of hw] at HOF
    have hr := (Mx.where_some hw).2.1
    have hri : (r : Int) < (m.r : Int) := by omega
    have HNL := hid (fun x (hx : x ∈ m.own r j) => (own_mem.1 hx).1)
    have hr8 := h.r8
    have hn16 := h.n16
    generalize m.own r j = l at *
    clear h hw
    go_enter Try.func20, Try.ntmps20
    go_wp2_with fail
    refine HOF.out.mono ?_
    rintro e w1 ⟨v, rfl, hv, hb1⟩
    have HB1 := hid hb1
    have HR1 := hid (RdV.of_own hv)
    have HOW := hid (show ∀ g o, v = .slice (some ⟨g, o, none⟩) l.length o → True from fun _ _ _ => trivial)
    obtain ⟨av, cv, rfl, hcv1, hcv2⟩ := owns_slice hv
    have HOFF := hid (show ∀ g o, av = some ⟨g, o, none⟩ → ¬ G.own m.r g from by
      rintro g o e ⟨t, ht, rfl⟩
      subst e
      rcases owns_shape hv with ⟨h1, _⟩ | ⟨g9, c9, h1, h2, _⟩
      · cases h1
      · simp only [Value.slice.injEq, Option.some.injEq, Addr.mk.injEq] at h1
        have := HX.out.lt (G.g t) (.inr (.inr (.inr ⟨t, ht, rfl⟩)))
        omega)
    have HX1 := hid (HX.out.below hb1 (Nat.le_refl _))
    clear hv hb1
    go_wp2_with fail
    go_loopw [21] (fun q wr => ∃ k : Nat, k ≤ l.length ∧ q = .int .i64 k ∧ RxAt wr lo G (m.stand r (l.take k) 0) ∧ Keeps (G.own m.r) w1 wr) (fun q _ => l.length - (intOf q).toNat)
    case atStart => exact ⟨0, Nat.zero_le _, rfl, HX1.out, Keeps.refl _ _⟩
    case round =>
      obtain ⟨k, hk, rfl, hm, hkp⟩ := hrel
      have HM := hid hm
      have HKP := hid hkp
      have hc0 := hm.c0
      have hrow := hm.row r (by rw [Mx.stand_r]; exact hr)
      have hccr := hm.ccr
      have hccm := hm.ccm
      obtain ⟨hcp1, hcp2⟩ := hm.cpn r (by rw [Mx.stand_r]; exact hr)
      rw [Mx.stand_n] at hrow hcp1
      rw [Mx.stand_r] at hc0 hccr
      clear hm hkp
      by_cases hlt : k < l.length
      · have hki : (k : Int) < (l.length : Int) := by omega
        obtain ⟨x, hx⟩ : ∃ x, l[k]? = some x := ⟨_, List.getElem?_eq_getElem hlt⟩
        have hxn := HNL.out x (List.mem_of_getElem? hx)
        have HT := hid (take_snoc' l k x hx)
        have hrd := HR1.out.blk HKP.out HOFF.out
        obtain ⟨-, g, o, rfl, hg, hcell⟩ := hrd.at1 k (iv x) (by simp [hx])
        have hcell2 : wr.cell? ⟨g, o + k, none⟩ = some (.int .i64 x) := hcell
        have hcx := HM.out.cell r x (by rw [Mx.stand_r]; exact hr) (by rw [Mx.stand_n]; exact hxn)
        have hfx := HM.out.frz r x (by rw [Mx.stand_r]; exact hr)
        have hxi : (x : Int) < (m.n : Int) := by omega
        have HN := hid (show RxAt (wr.setCell ⟨G.g r, x, none⟩ (.int .u32 0)) lo G (m.stand r (l.take (k + 1)) 0) by
          rw [HT.out, Mx.stand_snoc]
          exact HM.out.put r x 0 (by rw [Mx.stand_r]; exact hr) (by rw [Mx.stand_n]; exact hxn) (by omega))
        have HK2 := hid (show Keeps (G.own m.r) w1 (wr.setCell ⟨G.g r, x, none⟩ (.int .u32 0)) from HKP.out.trans ((Keeps.refl (G.own m.r) wr).setCell (p := ⟨G.g r, x, none⟩) (fun _ => ⟨r, hr, rfl⟩) _))
        clear hcell hx hg hrd
        go_wp2_with fail
        go_roundw
        case rel => exact ⟨k + 1, hlt, by go_num, HN.out, HK2.out⟩
        case measure => simp [intOf]; omega
      · have hki : ¬ (k : Int) < (l.length : Int) := by omega
        have HN := hid (show RxAt wr lo G (m.stand r l 0) by
          have e : k = l.length := by omega
          have := HM.out
          rwa [e, List.take_length] at this)
        clear hlt
        go_wp2_with fail
        go_ret
        exact ⟨rfl, HN.out, (Keeps.of_below HB1.out (fun q hq hge => absurd hq (by omega))).trans HKP.out⟩

theorem rnext_nil (w : World) (row : Int) :
    Calls Try.prog 50 #[.pointer none, .int .i64 row] w fun e w' => e = .returned (.tuple #[.int .i64 0, .bool false]) ∧ w = w' := by
  go_enter Try.func50, Try.ntmps50
  go_wp2_with fail
  go_ret2
  exact ⟨rfl, rfl⟩

theorem from_row {m : Mx} {row : Int} (h : 0 ≤ row ∧ row < m.r) : m.from row = row.toNat + 1 := by unfold Mx.from; rw [if_pos h]
theorem seek_mod {m : Mx} {s : Nat} : ∀ (k i : Nat), m.seek (s + m.r) i k = m.seek s i k
  | 0, _ => rfl
  | k + 1, i => by
    rw [Mx.seek_succ, Mx.seek_succ, seek_mod k (i + 1), show (s + m.r + i) % m.r = (s + i) % m.r by rw [show s + m.r + i = s + i + m.r by omega, Nat.add_mod_right]]

/-- The row behind which it begins. -/
def Mx.rfrom (m : Mx) (row : Int) : Nat := if 0 ≤ row ∧ row < m.r then row.toNat else m.r - 1
theorem next_rfrom {m : Mx} (h1 : 1 ≤ m.r) (row : Int) : m.next row = m.seek (m.rfrom row + 1) 0 m.r := by
  unfold Mx.next Mx.from Mx.rfrom
  split
  · rfl
  · rw [show m.r - 1 + 1 = 0 + m.r by omega, seek_mod]

set_option maxRecDepth 100000 in
set_option maxHeartbeats 4000000 in
theorem rnext_any (w : World) (lo : Nat) (G : Geo) (row : Int) (m : Mx) (h : RxAt w lo G m) (ho : One m) (h1 : 1 ≤ m.r) :
    Calls Try.prog 50 #[.pointer (some ⟨G.x, 0, none⟩), .int .i64 row] w fun e w' => e = .returned (nextVal (m.next row)) ∧ Below w.heap.size w w' := by
  rw [next_rfrom h1]
  have hc0 := h.c0
  have hccr := h.ccr
  have hccm := h.ccm
  have hr8 := h.r8
  have HRW := hid (fun W (hW : Below w.heap.size w W) i (hi : i < m.r) => rrow_any W lo G m i (h.below hW (Nat.le_refl _)) ho hi)
  have hfr : m.rfrom row < m.r := by unfold Mx.rfrom; split <;> omega
  have hcase : (row < 0 ∧ m.rfrom row = m.r - 1) ∨ (0 ≤ row ∧ (m.r : Int) ≤ row ∧ m.rfrom row = m.r - 1) ∨ (0 ≤ row ∧ row < m.r ∧ row = (m.rfrom row : Nat)) := by
    unfold Mx.rfrom; split <;> omega
  have HSK := hid (fun (i k : Nat) => m.seek_succ (m.rfrom row + 1) i k)
  generalize m.rfrom row = s at *
  have HFR := hid hfr
  obtain ⟨r1, hr1⟩ : ∃ z, z = m.r - 1 := ⟨_, rfl⟩
  rw [← hr1] at hcase
  have HX := hid h
  clear h ho
  have HR1 := hid hr1
  clear hr1
  rcases hcase with ⟨hA, hs⟩ | ⟨hA, hB, hs⟩ | ⟨hA, hB, hs⟩
  · have hsi : ((m.r : Int) - 1) = (s : Int) := by have := HR1.out; omega
    have HSI := hid hsi
    clear hsi hs HR1
    go_enter Try.func50, Try.ntmps50
    go_upto_region 6 with (fail)
    rw [HSI.out]
    go_wp2_with fail
    go_loopw [7] (fun iv wr => ∃ i : Nat, iv = .int .i64 i ∧ 1 ≤ i ∧ i ≤ m.r + 1 ∧ m.seek (s + 1) 0 m.r = m.seek (s + 1) (i - 1) (m.r + 1 - i) ∧ Below w.heap.size w wr) (fun iv _ => m.r + 1 - (intOf iv).toNat)
    case atStart => exact ⟨1, rfl, Nat.le_refl _, by omega, by rw [Nat.sub_self, Nat.add_sub_cancel], Below.refl _ _⟩
    case round =>
      obtain ⟨i, rfl, hi1, hi2, hsk, hb⟩ := hrel
      have HB := hid hb
      by_cases hle : i ≤ m.r
      · have hlei : (i : Int) ≤ (m.r : Int) := by omega
        obtain ⟨z, hz⟩ : ∃ z, z = (s + 1 + (i - 1)) % m.r := ⟨_, rfl⟩
        have hzr : z < m.r := by rw [hz]; exact Nat.mod_lt _ (by omega)
        have hsr := HFR.out
        obtain ⟨a, haa⟩ : ∃ a, a = s + i := ⟨_, rfl⟩
        have hmod0 : (a : Int) % (m.r : Int) = (z : Int) := by rw [← Int.natCast_emod, hz, haa, show s + 1 + (i - 1) = s + i by omega]
        have hmod : (a : Int).tmod (m.r : Int) = (z : Int) := by rw [Int.tmod_eq_emod_of_nonneg (by omega)]; exact hmod0
        have hmodi : ((s : Int) + (i : Int)) % (m.r : Int) = (z : Int) := by rw [← hmod0, haa]; simp
        have hmodt : ((s : Int) + (i : Int)).tmod (m.r : Int) = (z : Int) := by rw [Int.tmod_eq_emod_of_nonneg (by omega)]; exact hmodi
        have hzn : ((m.r : Int) == 0) = false := by rw [beq_eq_false_iff_ne]; omega
        have hz1 : (1 : Int) ≤ (m.r : Int) := by omega
        have hzi : (z : Int) < (m.r : Int) := by omega
        have hzi8 : (m.r : Int) ≤ 8 := by omega
        have HS := HSK.out (i - 1) (m.r - i)
        rw [show m.r + 1 - i = m.r - i + 1 by omega, HS, ← hz] at hsk
        have hxr := HX.out.below hb (Nat.le_refl _)
        have HRW1 := hid (HRW.out wr hb z hzr)
        have HWI := hid (show Go.RowKit.wrap64 ((i : Int) + 1) = ((i + 1 : Nat) : Int) by unfold Go.RowKit.wrap64; omega)
        have hsi8 : (s : Int) < 8 := by omega
        have hii9 : (i : Int) ≤ 8 := by omega
        cases hrow : m.row z with
        | nil =>
          rw [hrow] at HRW1 hsk
          rw [if_pos rfl] at hsk
          have HSK2 := hid hsk
          clear hb hz haa hsk hrow hxr HS
          go_wp2_with (first
            | (go_at_call 51; (with_reducible refine HRW1.out.mono ?_); rintro e w2 ⟨v2, rfl, hv2, hb2⟩; obtain ⟨a2, c2, rfl, -, -⟩ := owns_slice hv2; have HB2 := hid (HB.out.trans (hb2.mono HB.out.size)); clear hv2 hb2)
            | fail)
          try rw [HWI.out]
          go_roundw
          case rel => exact ⟨i + 1, by go_num, by omega, by omega, by rw [HSK2.out, show i + 1 - 1 = i - 1 + 1 by omega, show m.r + 1 - (i + 1) = m.r - i by omega], HB2.out⟩
          case measure => simp [intOf]; omega
        | cons y ys =>
          rw [hrow] at HRW1 hsk
          rw [if_neg (by simp)] at hsk
          have HSK2 := hid hsk
          obtain ⟨nl, hnl⟩ : ∃ n, n = (y :: ys).length := ⟨_, rfl⟩
          have hnl0 : (0 : Int) < (nl : Int) := by rw [hnl]; simp only [List.length_cons]; omega
          rw [← hnl] at HRW1
          clear hb hz haa hsk hrow hxr HS hnl
          go_wp2_with (first
            | (go_at_call 51; (with_reducible refine HRW1.out.mono ?_); rintro e w2 ⟨v2, rfl, hv2, hb2⟩; obtain ⟨a2, c2, rfl, -, -⟩ := owns_slice hv2; have HB2 := hid (HB.out.trans (hb2.mono HB.out.size)); clear hv2 hb2)
            | fail)
          go_ret2
          exact ⟨by rw [HSK2.out]; rfl, HB2.out⟩
      · have hlei : ¬ (i : Int) ≤ (m.r : Int) := by omega
        have HSK2 := hid (show m.seek (s + 1) 0 m.r = none by rw [hsk, show m.r + 1 - i = 0 by omega]; rfl)
        clear hb hsk
        go_wp2_with fail
        go_ret2
        exact ⟨by rw [HSK2.out]; rfl, HB.out⟩
  · have hsi : ((m.r : Int) - 1) = (s : Int) := by have := HR1.out; omega
    have HSI := hid hsi
    have hA1 : ¬ row < 0 := by omega
    have hB1 : row ≥ (m.r : Int) := hB
    clear hsi hs HR1
    go_enter Try.func50, Try.ntmps50
    go_upto_region 6 with (fail)
    rw [HSI.out]
    go_wp2_with fail
    go_loopw [7] (fun iv wr => ∃ i : Nat, iv = .int .i64 i ∧ 1 ≤ i ∧ i ≤ m.r + 1 ∧ m.seek (s + 1) 0 m.r = m.seek (s + 1) (i - 1) (m.r + 1 - i) ∧ Below w.heap.size w wr) (fun iv _ => m.r + 1 - (intOf iv).toNat)
    case atStart => exact ⟨1, rfl, Nat.le_refl _, by omega, by rw [Nat.sub_self, Nat.add_sub_cancel], Below.refl _ _⟩
    case round =>
      obtain ⟨i, rfl, hi1, hi2, hsk, hb⟩ := hrel
      have HB := hid hb
      by_cases hle : i ≤ m.r
      · have hlei : (i : Int) ≤ (m.r : Int) := by omega
        obtain ⟨z, hz⟩ : ∃ z, z = (s + 1 + (i - 1)) % m.r := ⟨_, rfl⟩
        have hzr : z < m.r := by rw [hz]; exact Nat.mod_lt _ (by omega)
        have hsr := HFR.out
        obtain ⟨a, haa⟩ : ∃ a, a = s + i := ⟨_, rfl⟩
        have hmod0 : (a : Int) % (m.r : Int) = (z : Int) := by rw [← Int.natCast_emod, hz, haa, show s + 1 + (i - 1) = s + i by omega]
        have hmod : (a : Int).tmod (m.r : Int) = (z : Int) := by rw [Int.tmod_eq_emod_of_nonneg (by omega)]; exact hmod0
        have hmodi : ((s : Int) + (i : Int)) % (m.r : Int) = (z : Int) := by rw [← hmod0, haa]; simp
        have hmodt : ((s : Int) + (i : Int)).tmod (m.r : Int) = (z : Int) := by rw [Int.tmod_eq_emod_of_nonneg (by omega)]; exact hmodi
        have hzn : ((m.r : Int) == 0) = false := by rw [beq_eq_false_iff_ne]; omega
        have hz1 : (1 : Int) ≤ (m.r : Int) := by omega
        have hzi : (z : Int) < (m.r : Int) := by omega
        have hzi8 : (m.r : Int) ≤ 8 := by omega
        have HS := HSK.out (i - 1) (m.r - i)
        rw [show m.r + 1 - i = m.r - i + 1 by omega, HS, ← hz] at hsk
        have hxr := HX.out.below hb (Nat.le_refl _)
        have HRW1 := hid (HRW.out wr hb z hzr)
        have HWI := hid (show Go.RowKit.wrap64 ((i : Int) + 1) = ((i + 1 : Nat) : Int) by unfold Go.RowKit.wrap64; omega)
        have hsi8 : (s : Int) < 8 := by omega
        have hii9 : (i : Int) ≤ 8 := by omega
        cases hrow : m.row z with
        | nil =>
          rw [hrow] at HRW1 hsk
          rw [if_pos rfl] at hsk
          have HSK2 := hid hsk
          clear hb hz haa hsk hrow hxr HS
          go_wp2_with (first
            | (go_at_call 51; (with_reducible refine HRW1.out.mono ?_); rintro e w2 ⟨v2, rfl, hv2, hb2⟩; obtain ⟨a2, c2, rfl, -, -⟩ := owns_slice hv2; have HB2 := hid (HB.out.trans (hb2.mono HB.out.size)); clear hv2 hb2)
            | fail)
          try rw [HWI.out]
          go_roundw
          case rel => exact ⟨i + 1, by go_num, by omega, by omega, by rw [HSK2.out, show i + 1 - 1 = i - 1 + 1 by omega, show m.r + 1 - (i + 1) = m.r - i by omega], HB2.out⟩
          case measure => simp [intOf]; omega
        | cons y ys =>
          rw [hrow] at HRW1 hsk
          rw [if_neg (by simp)] at hsk
          have HSK2 := hid hsk
          obtain ⟨nl, hnl⟩ : ∃ n, n = (y :: ys).length := ⟨_, rfl⟩
          have hnl0 : (0 : Int) < (nl : Int) := by rw [hnl]; simp only [List.length_cons]; omega
          rw [← hnl] at HRW1
          clear hb hz haa hsk hrow hxr HS hnl
          go_wp2_with (first
            | (go_at_call 51; (with_reducible refine HRW1.out.mono ?_); rintro e w2 ⟨v2, rfl, hv2, hb2⟩; obtain ⟨a2, c2, rfl, -, -⟩ := owns_slice hv2; have HB2 := hid (HB.out.trans (hb2.mono HB.out.size)); clear hv2 hb2)
            | fail)
          go_ret2
          exact ⟨by rw [HSK2.out]; rfl, HB2.out⟩
      · have hlei : ¬ (i : Int) ≤ (m.r : Int) := by omega
        have HSK2 := hid (show m.seek (s + 1) 0 m.r = none by rw [hsk, show m.r + 1 - i = 0 by omega]; rfl)
        clear hb hsk
        go_wp2_with fail
        go_ret2
        exact ⟨by rw [HSK2.out]; rfl, HB.out⟩
  · subst hs
    have hA1 : ¬ (s : Int) < 0 := by omega
    have hB1 : ¬ (s : Int) ≥ (m.r : Int) := by omega
    have hB2 : ¬ (m.r : Int) ≤ (s : Int) := by omega
    clear HR1
    go_enter Try.func50, Try.ntmps50
    go_upto_region 6 with (fail)
    go_wp2_with fail
    go_loopw [7] (fun iv wr => ∃ i : Nat, iv = .int .i64 i ∧ 1 ≤ i ∧ i ≤ m.r + 1 ∧ m.seek (s + 1) 0 m.r = m.seek (s + 1) (i - 1) (m.r + 1 - i) ∧ Below w.heap.size w wr) (fun iv _ => m.r + 1 - (intOf iv).toNat)
    case atStart => exact ⟨1, rfl, Nat.le_refl _, by omega, by rw [Nat.sub_self, Nat.add_sub_cancel], Below.refl _ _⟩
    case round =>
      obtain ⟨i, rfl, hi1, hi2, hsk, hb⟩ := hrel
      have HB := hid hb
      by_cases hle : i ≤ m.r
      · have hlei : (i : Int) ≤ (m.r : Int) := by omega
        obtain ⟨z, hz⟩ : ∃ z, z = (s + 1 + (i - 1)) % m.r := ⟨_, rfl⟩
        have hzr : z < m.r := by rw [hz]; exact Nat.mod_lt _ (by omega)
        have hsr := HFR.out
        obtain ⟨a, haa⟩ : ∃ a, a = s + i := ⟨_, rfl⟩
        have hmod0 : (a : Int) % (m.r : Int) = (z : Int) := by rw [← Int.natCast_emod, hz, haa, show s + 1 + (i - 1) = s + i by omega]
        have hmod : (a : Int).tmod (m.r : Int) = (z : Int) := by rw [Int.tmod_eq_emod_of_nonneg (by omega)]; exact hmod0
        have hmodi : ((s : Int) + (i : Int)) % (m.r : Int) = (z : Int) := by rw [← hmod0, haa]; simp
        have hmodt : ((s : Int) + (i : Int)).tmod (m.r : Int) = (z : Int) := by rw [Int.tmod_eq_emod_of_nonneg (by omega)]; exact hmodi
        have hzn : ((m.r : Int) == 0) = false := by rw [beq_eq_false_iff_ne]; omega
        have hz1 : (1 : Int) ≤ (m.r : Int) := by omega
        have hzi : (z : Int) < (m.r : Int) := by omega
        have hzi8 : (m.r : Int) ≤ 8 := by omega
        have HS := HSK.out (i - 1) (m.r - i)
        rw [show m.r + 1 - i = m.r - i + 1 by omega, HS, ← hz] at hsk
        have hxr := HX.out.below hb (Nat.le_refl _)
        have HRW1 := hid (HRW.out wr hb z hzr)
        have HWI := hid (show Go.RowKit.wrap64 ((i : Int) + 1) = ((i + 1 : Nat) : Int) by unfold Go.RowKit.wrap64; omega)
        have hsi8 : (s : Int) < 8 := by omega
        have hii9 : (i : Int) ≤ 8 := by omega
        cases hrow : m.row z with
        | nil =>
          rw [hrow] at HRW1 hsk
          rw [if_pos rfl] at hsk
          have HSK2 := hid hsk
          clear hb hz haa hsk hrow hxr HS
          go_wp2_with (first
            | (go_at_call 51; (with_reducible refine HRW1.out.mono ?_); rintro e w2 ⟨v2, rfl, hv2, hb2⟩; obtain ⟨a2, c2, rfl, -, -⟩ := owns_slice hv2; have HB2 := hid (HB.out.trans (hb2.mono HB.out.size)); clear hv2 hb2)
            | fail)
          try rw [HWI.out]
          go_roundw
          case rel => exact ⟨i + 1, by go_num, by omega, by omega, by rw [HSK2.out, show i + 1 - 1 = i - 1 + 1 by omega, show m.r + 1 - (i + 1) = m.r - i by omega], HB2.out⟩
          case measure => simp [intOf]; omega
        | cons y ys =>
          rw [hrow] at HRW1 hsk
          rw [if_neg (by simp)] at hsk
          have HSK2 := hid hsk
          obtain ⟨nl, hnl⟩ : ∃ n, n = (y :: ys).length := ⟨_, rfl⟩
          have hnl0 : (0 : Int) < (nl : Int) := by rw [hnl]; simp only [List.length_cons]; omega
          rw [← hnl] at HRW1
          clear hb hz haa hsk hrow hxr HS hnl
          go_wp2_with (first
            | (go_at_call 51; (with_reducible refine HRW1.out.mono ?_); rintro e w2 ⟨v2, rfl, hv2, hb2⟩; obtain ⟨a2, c2, rfl, -, -⟩ := owns_slice hv2; have HB2 := hid (HB.out.trans (hb2.mono HB.out.size)); clear hv2 hb2)
            | fail)
          go_ret2
          exact ⟨by rw [HSK2.out]; rfl, HB2.out⟩
      · have hlei : ¬ (i : Int) ≤ (m.r : Int) := by omega
        have HSK2 := hid (show m.seek (s + 1) 0 m.r = none by rw [hsk, show m.r + 1 - i = 0 by omega]; rfl)
        clear hb hsk
        go_wp2_with fail
        go_ret2
        exact ⟨by rw [HSK2.out]; rfl, HB.out⟩

end Go.Proofs.Ytdongghjchnpbaa

namespace Go.Proofs.Ytdongghjchnpbaa
open Go.RowKit Go.Shelf
set_option linter.unusedVariables false
set_option linter.unusedSimpArgs false

def insJ : List Nat → Nat → List Nat
  | [], j => [j]
  | x :: r, j => if j < x then j :: x :: r else x :: insJ r j
def anyGt (l : List Nat) (j : Nat) : Bool := l.any fun x => decide (j < x)
theorem anyGt_snoc (l : List Nat) (x j : Nat) : anyGt (l ++ [x]) j = (anyGt l j || decide (j < x)) := by unfold anyGt; simp
theorem insJ_no : ∀ {l : List Nat} {j : Nat}, anyGt l j = false → insJ l j = l ++ [j]
  | [], _, _ => rfl
  | x :: r, j, h => by
    unfold anyGt at h
    simp only [List.any_cons, Bool.or_eq_false_iff, decide_eq_false_iff_not] at h
    unfold insJ
    rw [if_neg h.1, insJ_no (l := r) (by unfold anyGt; exact h.2)]
    rfl
theorem insJ_snoc_yes : ∀ {l : List Nat} {j x : Nat}, anyGt l j = true → insJ (l ++ [x]) j = insJ l j ++ [x]
  | [], _, _, h => by cases h
  | y :: r, j, x, h => by
    show insJ (y :: (r ++ [x])) j = insJ (y :: r) j ++ [x]
    unfold insJ
    by_cases hy : j < y
    · rw [if_pos hy, if_pos hy]; rfl
    · rw [if_neg hy, if_neg hy, insJ_snoc_yes (l := r) (by unfold anyGt at h ⊢; simpa [hy] using h)]
      rfl
theorem insJ_snoc_new : ∀ {l : List Nat} {j x : Nat}, anyGt l j = false → j < x → insJ (l ++ [x]) j = l ++ [j] ++ [x]
  | [], j, x, _, h => by show insJ [x] j = _; unfold insJ; rw [if_pos h]; rfl
  | y :: r, j, x, h, hx => by
    unfold anyGt at h
    simp only [List.any_cons, Bool.or_eq_false_iff, decide_eq_false_iff_not] at h
    show insJ (y :: (r ++ [x])) j = _
    unfold insJ
    rw [if_neg h.1, insJ_snoc_new (l := r) (by unfold anyGt; exact h.2) hx]
    rfl
theorem insJ_perm : ∀ (l : List Nat) (j : Nat), (insJ l j).Perm (j :: l)
  | [], j => List.Perm.refl _
  | x :: r, j => by
    unfold insJ
    split
    · exact List.Perm.refl _
    · exact ((insJ_perm r j).cons x).trans (List.Perm.swap j x r)
theorem insJ_sorted : ∀ {l : List Nat} {j : Nat}, l.Pairwise (· ≤ ·) → (insJ l j).Pairwise (· ≤ ·)
  | [], j, _ => List.pairwise_singleton _ _
  | x :: r, j, h => by
    obtain ⟨h1, h2⟩ := List.pairwise_cons.1 h
    unfold insJ
    split
    · rename_i hx
      refine List.pairwise_cons.2 ⟨fun y hy => ?_, h⟩
      rcases List.mem_cons.1 hy with rfl | hy
      · omega
      · have := h1 y hy; omega
    · rename_i hx
      refine List.pairwise_cons.2 ⟨fun y hy => ?_, insJ_sorted h2⟩
      rcases List.mem_cons.1 ((insJ_perm r j).mem_iff.1 hy) with rfl | hy
      · omega
      · exact h1 y hy
def insAll (l : List Nat) : List Nat := l.foldl insJ []
theorem insAll_snoc (l : List Nat) (j : Nat) : insAll (l ++ [j]) = insJ (insAll l) j := by unfold insAll; rw [List.foldl_append]; rfl
theorem insFold_perm : ∀ (l a : List Nat), (l.foldl insJ a).Perm (a ++ l)
  | [], a => by simp
  | j :: l, a => by
    rw [List.foldl_cons]
    refine (insFold_perm l _).trans (((insJ_perm a j).append_right l).trans ?_)
    exact (List.perm_middle (l₁ := a) (l₂ := l) (a := j)).symm
theorem insFold_sorted : ∀ (l a : List Nat), a.Pairwise (· ≤ ·) → (l.foldl insJ a).Pairwise (· ≤ ·)
  | [], _, h => h
  | j :: l, a, h => by rw [List.foldl_cons]; exact insFold_sorted l _ (insJ_sorted h)
theorem insAll_len (l : List Nat) : (insAll l).length = l.length := by have := (insFold_perm l []).length_eq; simpa [insAll] using this
theorem rising_le (l : List Nat) : (rising l).Pairwise (· ≤ ·) := by
  have h : (rising l).Pairwise (fun x y => (!ltN y x) = true) := List.pairwise_mergeSort (fun a b c h1 h2 => by
    unfold ltN at *
    simp only [Bool.not_eq_true', decide_eq_false_iff_not] at *
    omega) (fun a b => by
    unfold ltN
    simp only [Bool.or_eq_true, Bool.not_eq_true', decide_eq_false_iff_not]
    omega) l
  refine h.imp ?_
  intro a b hab
  unfold ltN at hab
  simp only [Bool.not_eq_true', decide_eq_false_iff_not] at hab
  omega
theorem insAll_rising (l : List Nat) : insAll l = rising l :=
  List.Perm.eq_of_pairwise (le := (· ≤ ·)) (fun a b _ _ h1 h2 => Nat.le_antisymm h1 h2) (insFold_sorted l [] List.Pairwise.nil) (rising_le l) ((insFold_perm l []).trans (by unfold rising; exact (List.mergeSort_perm _ _).symm))

theorem upTo_mono (m : Mx) (hn : m.n ≤ 16) (k : Nat) (hk : k ≤ 8) : (m.upTo k).length ≤ 128 := by
  have := m.upTo_len k
  have h2 : k * m.n ≤ 8 * 16 := Nat.mul_le_mul hk hn
  omega

theorem info32J : (Try.prog.info? 33).map (fun i => (i.zero, i.size, i.bytes)) = some (some (.int .u32 0), 1, 4) := by kernel_rfl

theorem rjobs_nil (w : World) :
    Calls Try.prog 48 #[.pointer none] w fun e w' => e = .returned (.slice none 0 0) ∧ w = w' := by
  go_enter Try.func48, Try.ntmps48
  go_wp2_with fail
  go_ret
  exact ⟨rfl, rfl⟩

set_option maxRecDepth 100000 in
set_option maxHeartbeats 8000000 in
theorem rjobs_any (w : World) (lo : Nat) (G : Geo) (m : Mx) (h : RxAt w lo G m) (ho : One m) :
    Calls Try.prog 48 #[.pointer (some ⟨G.x, 0, none⟩)] w fun e w' => ∃ v, e = .returned v ∧ RdV w' v (m.jobs.map uv) ∧ Below w.heap.size w w' := by
  unfold Mx.jobs
  rw [← insAll_rising]
  have hc0 := h.c0
  have hccr := h.ccr
  have hccm := h.ccm
  have hr8 := h.r8
  have hn16 := h.n16
  have HRW := hid (fun W (hW : Below w.heap.size w W) i (hi : i < m.r) => rrow_any W lo G m i (h.below hW (Nat.le_refl _)) ho hi)
  have HC0 := hid (fun W (hW : Below w.heap.size w W) => (h.below hW (Nat.le_refl _)).c0)
  have HUL := hid (fun k (hk : k ≤ m.r) => upTo_mono m hn16 k (by omega))
  have HRL := hid (fun i => show (m.row i).length ≤ 16 from Nat.le_trans (jobs_len _ _) (Nat.le_trans (m.at_len _) hn16))
  clear h ho
  go_enter Try.func48, Try.ntmps48
  go_wp2_with fail
  go_loopw [3, 18] (fun ov q wr => ∃ k : Nat, q = .int .i64 k ∧ k ≤ m.r ∧ RdV wr ov ((insAll (m.upTo k)).map uv) ∧ Below w.heap.size w wr) (fun _ q _ => m.r - (intOf q).toNat)
  case atStart => exact ⟨0, rfl, Nat.zero_le _, RdV.nil _, Below.refl _ _⟩
  case round =>
    obtain ⟨k, rfl, hk, hov, hb⟩ := hrel
    have HB := hid hb
    by_cases hkr : k < m.r
    · have hki : (k : Int) < (m.r : Int) := by omega
      have HRW1 := hid (HRW.out wr hb k hkr)
      have HUS := hid (Mx.upTo_succ m k)
      have HOV0 := hid hov
      have hul := HUL.out k hk
      have hrl := HRL.out k
      have hc1 := HC0.out wr hb
      obtain ⟨J, hJ⟩ : ∃ J, J = m.row k := ⟨_, rfl⟩
      rw [← hJ] at HRW1 HUS hrl
      obtain ⟨nj, hnj⟩ : ∃ n, n = J.length := ⟨_, rfl⟩
      rw [← hnj] at HRW1 hrl
      have HNJ := hid hnj
      clear hb hov hJ hnj
      go_upto_region 8 with (first
        | (go_at_call 51; (with_reducible refine HRW1.out.mono ?_); rintro e w2 ⟨v2, rfl, hv2, hb2⟩; obtain ⟨a2, c2, rfl, hc2a, hc2b⟩ := owns_slice hv2; have HB2 := hid (HB.out.trans (hb2.mono HB.out.size)); have HV2 := hid (RdV.of_own hv2); have HOV2 := hid (HOV0.out.all hb2); clear hv2 hb2)
        | fail)
      go_loopw [3, 25] (fun ov q wr => ∃ t : Nat, q = .int .i64 t ∧ t ≤ nj ∧ RdV wr ov ((insAll (m.upTo k ++ J.take t)).map uv) ∧ Below w2.heap.size w2 wr) (fun _ q _ => nj - (intOf q).toNat)
      case atStart => exact ⟨0, rfl, Nat.zero_le _, by rw [List.take_zero, List.append_nil]; exact HOV2.out, Below.refl _ _⟩
      case round =>
        obtain ⟨t, rfl, ht, hov, hbq⟩ := hrel
        have HWQ := hid hbq
        by_cases htn : t < nj
        · have hti : (t : Int) < (nj : Int) := by omega
          obtain ⟨j, hj⟩ : ∃ j, J[t]? = some j := ⟨_, List.getElem?_eq_getElem (by have := HNJ.out; omega)⟩
          obtain ⟨-, gj, oj, rfl, hgj, hcellj⟩ := RdV.at1 (HV2.out.all hbq) t (uv j) (by rw [List.getElem?_map, hj]; rfl)
          have hcj : wr.cell? ⟨gj, oj + t, none⟩ = some (.int .u32 (j : Nat)) := hcellj
          have HTT := hid (take_snoc' _ _ _ hj)
          obtain ⟨O, hO⟩ : ∃ O, O = insAll (m.upTo k ++ J.take t) := ⟨_, rfl⟩
          rw [← hO] at hov
          have hol : O.length ≤ 150 := by rw [hO, insAll_len, List.length_append, List.length_take]; omega
          obtain ⟨ao, co, rfl, hco1, hco2⟩ := hov.len
          obtain ⟨no, hno⟩ : ∃ n, n = O.length := ⟨_, rfl⟩
          rw [List.length_map, ← hno] at hco1 hov ⊢
          rw [← hno] at hol
          have HNO := hid hno
          have HOV := hid hov
          have HO := hid hO
          clear hbq hj hcellj hov hno hO
          obtain ⟨wp, hwp⟩ : ∃ wp, wp = wr := ⟨_, rfl⟩
          subst hwp
          go_upto_region 12 with (fail)
          go_wp2_with fail
          go_loopw [7, 8, 31] (fun nv dv q wr => ∃ u : Nat, q = .int .i64 u ∧ u ≤ no ∧ dv = .bool (anyGt (O.take u) j) ∧ wr.ownsRow wp.heap.size 33 1 nv (if anyGt (O.take u) j then insJ (O.take u) j else O.take u).length ((if anyGt (O.take u) j then insJ (O.take u) j else O.take u).map uv) ∧ Below wp.heap.size wp wr) (fun _ _ q _ => no - (intOf q).toNat)
          case atStart => exact ⟨0, rfl, Nat.zero_le _, rfl, World.ownsRow_nil _ _ _ _, Below.refl _ _⟩
          case round =>
            obtain ⟨u, rfl, hu, rfl, ho, hb⟩ := hrel
            have HB3 := hid hb
            have hsz3 := hb.size
            by_cases hun : u < no
            · have hui : (u : Int) < (no : Int) := by omega
              obtain ⟨x, hx⟩ : ∃ x, O[u]? = some x := ⟨_, List.getElem?_eq_getElem (by have := HNO.out; omega)⟩
              obtain ⟨-, go, oo, rfl, hgo, hcello⟩ := RdV.at1 (HOV.out.all hb) u (uv x) (by rw [List.getElem?_map, hx]; rfl)
              have hcx : wr.cell? ⟨go, oo + u, none⟩ = some (.int .u32 (x : Nat)) := hcello
              have HTK := hid (take_snoc' _ _ _ hx)
              have HAG := hid (anyGt_snoc (O.take u) x j)
              have htl : (O.take u).length ≤ 200 := by rw [List.length_take]; have := HNO.out; omega
              cases hag : anyGt (O.take u) j with
              | true =>
                have HIN := hid (insJ_snoc_yes (x := x) hag)
                rw [hag] at ho HAG
                rw [if_pos rfl] at ho
                have hil : (insJ (O.take u) j).length ≤ 201 := by have := (insJ_perm (O.take u) j).length_eq; rw [List.length_cons] at this; omega
                generalize hil2 : (insJ (O.take u) j).length = il at *
                have HIL := hid hil2
                have HO3 := hid ho
                have hof := hid (owns_below ho ((Below.refl _ _).alloc (Nat.le_refl _) (.cells #[.int .u32 (x : Nat)] 33)))
                have hsrc := hid (SrcC.lit wr #[.int .u32 (x : Nat)] 33 1 [uv x] rfl)
                clear hb hx hcello ho hag hil2
                go_wp2_with (first
                  | (at_builtin; (refine appsw (by rfl) 60 33 (.tmp 46) (.tmp 48) rfl wp.heap.size 1 4 _ Try.underlying60 info32J rfl (by decide) _ _ il 1 (il + 1) _ _ rfl rfl hof.out hsrc.out rfl (by intro y hy; rw [List.mem_singleton] at hy; subst hy; rfl) rfl (by omega) (by omega) (by simp; omega) ?_); intro adA cpA wA hoA hgA; have HOA := hid hoA; have HGA := hid hgA; clear hoA hgA)
                  | fail)
                have hbA : Below wp.heap.size wp wA := (HB3.out.alloc (by omega) (.cells #[.int .u32 (x : Nat)] 33)).grown HGA.out (by simp; omega) (fun g hg => (World.ownsRow.lt HO3.out g hg).1)
                have HBA := hid hbA
                clear hbA
                go_roundw
                case rel => exact ⟨u + 1, by go_num, by omega, by rw [HTK.out, HAG.out]; simp, by rw [HTK.out, HAG.out]; simp only [Bool.true_or, if_true]; rw [HIN.out, List.length_append, HIL.out, List.map_append]; exact HOA.out, HBA.out⟩
                case measure => simp [intOf]; omega
              | false =>
                rw [hag] at ho HAG
                rw [if_neg (by simp)] at ho
                have hag2 := hag
                by_cases hjx : j < x
                · have hji : (j : Int) < (x : Int) := by omega
                  have hjg : (x : Int) > (j : Int) := hji
                  have HIN := hid (insJ_snoc_new hag2 hjx)
                  have HJX := hid hjx
                  generalize htl2 : (O.take u).length = tl at *
                  have HTL := hid htl2
                  have HO3 := hid ho
                  have hof := hid (owns_below ho ((Below.refl _ _).alloc (Nat.le_refl _) (.cells #[.int .u32 (j : Nat)] 33)))
                  have hsrc := hid (SrcC.lit wr #[.int .u32 (j : Nat)] 33 1 [uv j] rfl)
                  clear hb hx hcello ho hag hag2 htl2 hjx
                  go_upto_region 17 with (first
                    | (at_builtin; (refine appsw (by rfl) 60 33 (.tmp 42) (.tmp 44) rfl wp.heap.size 1 4 _ Try.underlying60 info32J rfl (by decide) _ _ tl 1 (tl + 1) _ _ rfl rfl hof.out hsrc.out rfl (by intro y hy; rw [List.mem_singleton] at hy; subst hy; rfl) rfl (by omega) (by omega) (by simp; omega) ?_); intro adA cpA wA hoA hgA; have HOA := hid hoA; have HGA := hid hgA; clear hoA hgA)
                    | fail)
                  have hbA : Below wp.heap.size wp wA := (HB3.out.alloc (by omega) (.cells #[.int .u32 (j : Nat)] 33)).grown HGA.out (by simp; omega) (fun g hg => (World.ownsRow.lt HO3.out g hg).1)
                  have HBA := hid hbA
                  have hszA := hbA.size
                  have hof2 := hid (owns_below HOA.out ((Below.refl _ _).alloc (Nat.le_refl _) (.cells #[.int .u32 (x : Nat)] 33)))
                  have hsrc2 := hid (SrcC.lit wA #[.int .u32 (x : Nat)] 33 1 [uv x] rfl)
                  clear hbA
                  go_wp2_with (first
                    | (at_builtin; (refine appsw (by rfl) 60 33 (.tmp 46) (.tmp 48) rfl wp.heap.size 1 4 _ Try.underlying60 info32J rfl (by decide) _ _ (tl + 1) 1 ((tl + 1) + 1) _ _ rfl rfl hof2.out hsrc2.out rfl (by intro y hy; rw [List.mem_singleton] at hy; subst hy; rfl) rfl (by omega) (by omega) (by simp; omega) ?_); intro adB cpB wB hoB hgB; have HOB := hid hoB; have HGB := hid hgB; clear hoB hgB)
                    | fail)
                  have hbB : Below wp.heap.size wp wB := (HBA.out.alloc (by omega) (.cells #[.int .u32 (x : Nat)] 33)).grown HGB.out (by simp; omega) (fun g hg => (World.ownsRow.lt HOA.out g hg).1)
                  have HBB := hid hbB
                  clear hbB
                  go_roundw
                  case rel => exact ⟨u + 1, by go_num, by omega, by rw [HTK.out, HAG.out]; simp [HJX.out], by rw [HTK.out, HAG.out]; simp only [decide_eq_true HJX.out, Bool.or_true, if_true]; rw [HIN.out, List.length_append, List.length_append, HTL.out, List.map_append, List.map_append]; exact HOB.out, HBB.out⟩
                  case measure => simp [intOf]; omega
                · have hji : ¬ (j : Int) < (x : Int) := by omega
                  have hjg : ¬ (x : Int) > (j : Int) := hji
                  have HJX := hid (decide_eq_false hjx)
                  generalize htl2 : (O.take u).length = tl at *
                  have HTL := hid htl2
                  have HO3 := hid ho
                  have hof := hid (owns_below ho ((Below.refl _ _).alloc (Nat.le_refl _) (.cells #[.int .u32 (x : Nat)] 33)))
                  have hsrc := hid (SrcC.lit wr #[.int .u32 (x : Nat)] 33 1 [uv x] rfl)
                  clear hb hx hcello ho hag hag2 htl2 hjx
                  go_wp2_with (first
                    | (at_builtin; (refine appsw (by rfl) 60 33 (.tmp 46) (.tmp 48) rfl wp.heap.size 1 4 _ Try.underlying60 info32J rfl (by decide) _ _ tl 1 (tl + 1) _ _ rfl rfl hof.out hsrc.out rfl (by intro y hy; rw [List.mem_singleton] at hy; subst hy; rfl) rfl (by omega) (by omega) (by simp; omega) ?_); intro adA cpA wA hoA hgA; have HOA := hid hoA; have HGA := hid hgA; clear hoA hgA)
                    | fail)
                  have hbA : Below wp.heap.size wp wA := (HB3.out.alloc (by omega) (.cells #[.int .u32 (x : Nat)] 33)).grown HGA.out (by simp; omega) (fun g hg => (World.ownsRow.lt HO3.out g hg).1)
                  have HBA := hid hbA
                  clear hbA
                  go_roundw
                  case rel => exact ⟨u + 1, by go_num, by omega, by rw [HTK.out, HAG.out, HJX.out]; rfl, by rw [HTK.out, HAG.out, HJX.out]; simp only [Bool.or_false, Bool.false_eq_true, if_false]; rw [List.length_append, HTL.out, List.map_append]; exact HOA.out, HBA.out⟩
                  case measure => simp [intOf]; omega
            · have hui : ¬ (u : Int) < (no : Int) := by omega
              have htk : O.take u = O := by rw [show u = no by omega, HNO.out, List.take_length]
              rw [htk] at ho ⊢
              cases hag : anyGt O j with
              | true =>
                rw [hag] at ho
                rw [if_pos rfl] at ho
                have HRN := hid (RdV.of_own ho)
                have hilo : (insJ O j).length = (insJ O j).length := rfl
                obtain ⟨an, cn, rfl, -, -⟩ := owns_slice ho
                have HW4 := hid (HWQ.out.trans (hb.mono HWQ.out.size))
                clear hb ho hag htk
                go_wp2_with fail
                go_roundw
                case rel => exact ⟨t + 1, by go_num, by omega, by rw [HTT.out, ← List.append_assoc, insAll_snoc, ← HO.out]; exact HRN.out, HW4.out⟩
                case measure => simp [intOf]; omega
              | false =>
                rw [hag] at ho
                rw [if_neg (by simp)] at ho
                have HIN := hid (insJ_no hag)
                have htl : O.length ≤ 200 := by have := HNO.out; omega
                generalize htl2 : O.length = tl at *
                have HTL := hid htl2
                have HO3 := hid ho
                have hof := hid (owns_below ho ((Below.refl _ _).alloc (Nat.le_refl _) (.cells #[.int .u32 (j : Nat)] 33)))
                have hsrc := hid (SrcC.lit wr #[.int .u32 (j : Nat)] 33 1 [uv j] rfl)
                clear hb ho hag htk htl2
                go_wp2_with (first
                  | (at_builtin; (refine appsw (by rfl) 60 33 (.tmp 53) (.tmp 55) rfl wp.heap.size 1 4 _ Try.underlying60 info32J rfl (by decide) _ _ tl 1 (tl + 1) _ _ rfl rfl hof.out hsrc.out rfl (by intro y hy; rw [List.mem_singleton] at hy; subst hy; rfl) rfl (by omega) (by omega) (by simp; omega) ?_); intro adA cpA wA hoA hgA; have HOA := hid hoA; have HGA := hid hgA; clear hoA hgA)
                  | fail)
                have hbA : Below wp.heap.size wp wA := (HB3.out.alloc (by omega) (.cells #[.int .u32 (j : Nat)] 33)).grown HGA.out (by simp; omega) (fun g hg => (World.ownsRow.lt HO3.out g hg).1)
                have HW4 := hid (HWQ.out.trans (hbA.mono HWQ.out.size))
                have HRN := hid (show RdV wA _ ((insJ O j).map uv) from by rw [HIN.out, List.map_append]; exact RdV.of_own HOA.out)
                clear hbA
                go_roundw
                case rel => exact ⟨t + 1, by go_num, by omega, by rw [HTT.out, ← List.append_assoc, insAll_snoc, ← HO.out]; exact HRN.out, HW4.out⟩
                case measure => simp [intOf]; omega
        · have hti : ¬ (t : Int) < (nj : Int) := by omega
          have htk : J.take t = J := by rw [show t = nj by omega, HNJ.out, List.take_length]
          have HOV3 := hid (show RdV wr _ ((insAll (m.upTo (k + 1))).map uv) from by rw [HUS.out, ← htk]; exact hov)
          have HW3 := hid (HB2.out.trans (hbq.mono HB2.out.size))
          clear hbq hov htk
          go_wp2_with fail
          go_roundw
          case rel => exact ⟨k + 1, by go_num, by omega, HOV3.out, HW3.out⟩
          case measure => simp [intOf]; omega
    · have hki : ¬ (k : Int) < (m.r : Int) := by omega
      have hkr2 : k = m.r := by omega
      rw [hkr2] at hov
      have HOV := hid hov
      clear hb hov hkr2 hkr
      go_wp2_with fail
      go_ret
      exact ⟨_, rfl, HOV.out, HB.out⟩

end Go.Proofs.Ytdongghjchnpbaa

namespace Go.Proofs.Ytdongghjchnpbaa
open Go.RowKit Go.Shelf
set_option linter.unusedVariables false

def rowVals2 (n : Nat) (l : List (Nat × Nat)) : List Value := l.map fun x => .slice (some ⟨x.1, 0, none⟩) n x.2
theorem rowVals2_one (n : Nat) (l : List (Nat × Nat)) : ∀ y ∈ rowVals2 n l, y.oneCell' = true := by
  intro y hy
  obtain ⟨_, _, rfl⟩ := List.mem_map.1 hy
  rfl

/-- The rows that were copied so far. -/
structure RowsC (w : World) (lo n : Nat) (c : Nat → Nat) (l : List (Nat × Nat)) : Prop where
  nd : (l.map Prod.fst).Nodup
  low : ∀ x ∈ l, lo ≤ x.1 ∧ n ≤ x.2 ∧ x.2 ≤ 9223372036854775807
  at_ : ∀ i x, l[i]? = some x → ∃ z : Array Value, w.heap[x.1]? = some (.cells z 33 (0, 0)) ∧ ∀ k, k < n → z[k]? = some (uv (c (16 * i + k)))

theorem RowsC.kt {w w' : World} {lo n B : Nat} {c : Nat → Nat} {l : List (Nat × Nat)} {ts : List TypeId} (h : RowsC w lo n c l) (hk : KT ts B w w') (ht : 33 ∉ ts) : RowsC w' lo n c l :=
  ⟨h.nd, h.low, fun i x hx => by obtain ⟨z, h1, h2⟩ := h.at_ i x hx; exact ⟨z, hk.block h1 ht, h2⟩⟩
theorem RowsC.lt {w : World} {lo n : Nat} {c : Nat → Nat} {l : List (Nat × Nat)} (h : RowsC w lo n c l) : ∀ x ∈ l, x.1 < w.heap.size := by
  intro x hx
  obtain ⟨i, hi⟩ := List.getElem?_of_mem hx
  obtain ⟨z, h1, _⟩ := h.at_ i x hi
  exact (Array.getElem?_eq_some_iff.1 h1).1
theorem RowsC.keep {w w' : World} {lo n : Nat} {c : Nat → Nat} {l : List (Nat × Nat)} (h : RowsC w lo n c l) (hb : ∀ k, k < w.heap.size → w'.heap[k]? = w.heap[k]?) : RowsC w' lo n c l :=
  ⟨h.nd, h.low, fun i x hx => by obtain ⟨z, h1, h2⟩ := h.at_ i x hx; exact ⟨z, (hb _ (Array.getElem?_eq_some_iff.1 h1).1).trans h1, h2⟩⟩

/-- One more row. -/
theorem RowsC.snoc {w : World} {lo n : Nat} {c : Nat → Nat} {l : List (Nat × Nat)} {g cp : Nat} {z : Array Value} (h : RowsC w lo n c l) (hg : w.heap[g]? = some (.cells z 33 (0, 0))) (hz : ∀ k, k < n → z[k]? = some (uv (c (16 * l.length + k)))) (hlo : lo ≤ g) (hn : n ≤ cp) (hm : cp ≤ 9223372036854775807) (hne : ∀ x ∈ l, x.1 ≠ g) : RowsC w lo n c (l ++ [(g, cp)]) := by
  refine ⟨?_, fun x hx => ?_, fun i x hx => ?_⟩
  · rw [List.map_append]
    refine List.nodup_append.2 ⟨h.nd, by simp, fun a ha b hb => ?_⟩
    simp at hb
    obtain ⟨x, hx, rfl⟩ := List.mem_map.1 ha
    rw [hb]; exact hne x hx
  · rcases List.mem_append.1 hx with hx | hx
    · exact h.low x hx
    · rw [List.mem_singleton] at hx; rw [hx]; exact ⟨hlo, hn, hm⟩
  · rcases Nat.lt_trichotomy i l.length with h1 | h1 | h1
    · rw [List.getElem?_append_left h1] at hx; exact h.at_ i x hx
    · rw [h1, List.getElem?_append_right (Nat.le_refl _)] at hx
      simp at hx
      subst hx
      rw [h1]
      exact ⟨z, hg, hz⟩
    · rw [List.getElem?_eq_none (by simp; omega)] at hx; cases hx

theorem rcopy_nil (w : World) :
    Calls Try.prog 13 #[.pointer none] w fun e w' => e = .returned (.pointer none) ∧ w = w' := by
  go_enter Try.func13, Try.ntmps13
  go_wp2_with fail
  go_ret
  exact ⟨rfl, rfl⟩

def upVals (m : Mx) : List Value := (List.range m.n).map fun k => .bool (!m.d k)
def rowCells (m : Mx) (i : Nat) : List Value := (List.range m.n).map fun k => uv (m.c (16 * i + k))
theorem upVals_one (m : Mx) : ∀ y ∈ upVals m, y.oneCell' = true := by
  intro y hy
  obtain ⟨_, _, rfl⟩ := List.mem_map.1 hy
  rfl
theorem rowCells_one (m : Mx) (i : Nat) : ∀ y ∈ rowCells m i, y.oneCell' = true := by
  intro y hy
  obtain ⟨_, _, rfl⟩ := List.mem_map.1 hy
  rfl
theorem RxAt.srcU {w : World} {lo : Nat} {G : Geo} {m : Mx} (h : RxAt w lo G m) (cap : Nat) : SrcC w (.slice (some ⟨G.bu, 0, none⟩) m.n cap) m.n (upVals m) := by
  refine .inr ⟨_, _, rfl, fun j y hj => ?_⟩
  rw [Addr.add_lit, Nat.zero_add]
  unfold upVals at hj
  rw [List.getElem?_map] at hj
  have hlt : j < m.n := by
    rcases Nat.lt_or_ge j m.n with h1 | h1
    · exact h1
    · rw [List.getElem?_eq_none (by simpa using h1)] at hj; cases hj
  rw [List.getElem?_range hlt] at hj
  rw [h.up j hlt]
  exact hj
theorem RxAt.srcR {w : World} {lo : Nat} {G : Geo} {m : Mx} (h : RxAt w lo G m) (i : Nat) (hi : i < m.r) (cap : Nat) : SrcC w (.slice (some ⟨G.g i, 0, none⟩) m.n cap) m.n (rowCells m i) := by
  refine .inr ⟨_, _, rfl, fun j y hj => ?_⟩
  rw [Addr.add_lit, Nat.zero_add]
  unfold rowCells at hj
  rw [List.getElem?_map] at hj
  have hlt : j < m.n := by
    rcases Nat.lt_or_ge j m.n with h1 | h1
    · exact h1
    · rw [List.getElem?_eq_none (by simpa using h1)] at hj; cases hj
  rw [List.getElem?_range hlt] at hj
  rw [h.cell i j hi hlt]
  exact hj

/-- What a row of the call's own holds, cell by cell. -/
theorem owns_at {w : World} {base : Nat} {e : TypeId} {v : Value} {n : Nat} {xs : List Value} (h : w.ownsRow base e 1 v n xs) (h0 : 0 < n) : ∃ g cap z, v = .slice (some ⟨g, 0, none⟩) n cap ∧ w.heap[g]? = some (.cells z e (0, 0)) ∧ base ≤ g ∧ n ≤ cap ∧ cap ≤ 9223372036854775807 ∧ ∀ (k : Nat) x, k < n → xs[k]? = some x → z[k]? = some x := by
  rcases owns_shape h with ⟨_, hz⟩ | ⟨g, cap, rfl, _⟩
  · omega
  · obtain ⟨cur, h1, h2, h3, h4, h5, h6⟩ := owns_setRow h
    refine ⟨g, cap, cur, rfl, h1, h6, h4, by unfold maxLen at h5; exact h5, fun k x hk hx => ?_⟩
    rw [← h3, List.getElem?_take, if_pos (by omega), Array.getElem?_toList] at hx
    exact hx

set_option maxRecDepth 100000 in
set_option maxHeartbeats 8000000 in
theorem rcopy_any (w : World) (lo : Nat) (G : Geo) (m : Mx) (h : RxAt w lo G m) :
    Calls Try.prog 13 #[.pointer (some ⟨G.x, 0, none⟩)] w fun e w' => ∃ H : Geo, e = .returned (.pointer (some ⟨H.x, 0, none⟩)) ∧ RxAt w' w.heap.size H m ∧ Below w.heap.size w w' := by
  have hc0 := h.c0
  have hc1 := h.c1
  have hn1 := h.n1
  have hn16 := h.n16
  have hr1 := h.r1
  have hr8 := h.r8
  have hri : (m.r : Int) ≤ 8 := by omega
  have hni : (m.n : Int) ≤ 16 := by omega
  have hccr := h.ccr
  have hccm := h.ccm
  have hcur := h.cur
  have hcum := h.cum
  have HX := hid h
  have bA : Below w.heap.size w (w.alloc (.cells #[] 4)) := (Below.refl _ w).alloc (Nat.le_refl _) _
  have hk0 : (w.alloc (.cells #[] 4)).cell? ⟨G.x, 1, none⟩ = some (.slice (some ⟨G.bu, 0, none⟩) m.n G.cu) := (bA.cell (p := ⟨G.x, 1, none⟩) (h.lt G.x (.inl rfl))).trans hc1
  have HSU := hid ((h.below bA (Nat.le_refl _)).srcU G.cu)
  have hul : (upVals m).length = m.n * 1 := by simp [upVals]
  have HUL := hid hul
  have HM0 := hid (World.ownsRow_made w (e := 4) (size := 1) #[] 0 (base := w.heap.size) (Nat.le_refl _) (Nat.zero_le _) rfl)
  have hsA : (w.alloc (.cells #[] 4)).heap.size = w.heap.size + 1 := by simp
  have HSA := hid hsA
  have HBA := hid bA
  clear h hul bA hsA
  go_enter Try.func13, Try.ntmps13
  go_wp2_with (first
    | (at_builtin; (refine appsw (by rfl) 47 4 (.tmp 8) (.tmp 12) rfl w.heap.size 1 1 _ Try.underlying47 infoBoolT rfl (by decide) _ _ 0 m.n m.n _ _ rfl rfl HM0.out HSU.out HUL.out (upVals_one m) (by omega) (by omega) (by omega) (by have := HSA.out; omega) ?_); intro ua uc w5 ho5 hg5; rw [List.nil_append] at ho5; have HO5 := hid ho5; have hg5' : Below w.heap.size w w5 := HBA.out.grown hg5 (by have := HSA.out; omega) (fun g hg => (World.ownsRow.lt HM0.out g hg).1); have HB5 := hid hg5'; have hc06 := (HX.out.below (hg5'.alloc hg5'.size (.cells #[.slice none 0 0, .slice ua m.n uc] 49)) (Nat.le_refl _)).c0; clear ho5 hg5 hg5')
    | fail)
  obtain ⟨X, hX⟩ : ∃ X, X = w5.heap.size := ⟨_, rfl⟩
  have hb6 : Below w.heap.size w (w5.alloc (.cells #[.slice none 0 0, .slice ua m.n uc] 49)) := HB5.out.alloc HB5.out.size _
  have HB6 := hid hb6
  have HX6 := hid (show (w5.alloc (.cells #[.slice none 0 0, .slice ua m.n uc] 49)).heap[X]? = some (.cells #[.slice none 0 0, .slice ua m.n uc] 49 (0, 0)) by rw [hX]; exact heap_alloc_new w5 _)
  have HO6 := hid (owns_below HO5.out ((Below.refl _ w5).alloc (Nat.le_refl _) (.cells #[.slice none 0 0, .slice ua m.n uc] 49)))
  have HXL := hid (show w.heap.size ≤ X by rw [hX]; exact HB5.out.size)
  rw [← hX]
  have HXX := hid hX
  clear hb6 hX hc0 hc1 hk0 hc06
  go_loopw [21] (fun i wr => ∃ (k : Nat) (dv : Value) (l : List (Nat × Nat)), k ≤ m.r ∧ i = .int .i64 k ∧ l.length = k ∧ wr.heap[X]? = some (.cells #[dv, .slice ua m.n uc] 49 (0, 0)) ∧ wr.ownsRow w.heap.size 60 1 dv k (rowVals2 m.n l) ∧ wr.ownsRow w.heap.size 4 1 (.slice ua m.n uc) m.n (upVals m) ∧ RowsC wr w.heap.size m.n m.c l ∧ Below w.heap.size w wr) (fun i _ => m.r - (intOf i).toNat)
  case atStart => exact ⟨0, _, [], Nat.zero_le _, rfl, rfl, HX6.out, World.ownsRow_nil _ _ _ _, HO6.out, ⟨List.nodup_nil, (fun x hx => by cases hx), (fun i x hx => by simp at hx)⟩, HB6.out⟩
  case round =>
    obtain ⟨k, dv, l, hk, rfl, hll, hx, hown, hup, hrows, hB⟩ := hrel
    have HXB := hid hx
    have HO := hid hown
    have HU := hid hup
    have HRW := hid hrows
    have HB := hid hB
    have HLL := hid hll
    have hsx : X < wr.heap.size := (Array.getElem?_eq_some_iff.1 hx).1
    have hsw := hB.size
    obtain ⟨ja, jc, rfl, hj1, hj2⟩ := owns_slice hown
    have hXW := HX.out.below hB (Nat.le_refl _)
    have HXW := hid hXW
    clear hx hown hup hrows hB hll
    by_cases hlt : k < m.r
    · have hki : (k : Int) < (m.r : Int) := by omega
      have hrow := hXW.row k hlt
      obtain ⟨hcp1, hcp2⟩ := hXW.cpn k hlt
      have e0 : wr.cell? ⟨X, 0, none⟩ = some (.slice ja k jc) := (cell_of_row _ _ _ _ _ _ HXB.out).trans rfl
      have b1 : Below wr.heap.size wr ((wr.alloc (.cells #[] 33)).drew) := ((Below.refl _ wr).alloc (Nat.le_refl _) _).drew
      have e1 : ((wr.alloc (.cells #[] 33)).drew).cell? ⟨X, 0, none⟩ = some (.slice ja k jc) := (b1.cell (p := ⟨X, 0, none⟩) hsx).trans e0
      have hs1 : ((wr.alloc (.cells #[] 33)).drew).heap.size = wr.heap.size + 1 := by show (wr.alloc _).heap.size = _; simp
      have HM1 := hid (show ((wr.alloc (.cells #[] 33)).drew).ownsRow wr.heap.size 33 1 (.slice (some ⟨wr.heap.size, 0, none⟩) 0 0) 0 [] from (World.ownsRow_made wr (e := 33) (size := 1) #[] 0 (base := wr.heap.size) (Nat.le_refl _) (Nat.zero_le _) rfl).drew)
      have HSR := hid ((HXW.out.below b1 (Nat.le_refl _)).srcR k hlt (G.cp k))
      have hrl : (rowCells m k).length = m.n * 1 := by simp [rowCells]
      have HRL := hid hrl
      have B1 := hid b1
      have S1 := hid hs1
      clear b1 hs1 hrl hXW
      go_wp2_with fail
      go_region_law (first
        | (refine appsst (by rfl) 60 33 (.tmp 30) (.tmp 31) rfl wr.heap.size 1 4 _ Try.underlying60 Try.infoU32 rfl (by decide) (.slice (some ⟨wr.heap.size, 0, none⟩) 0 0) (.slice (some ⟨G.g k, 0, none⟩) m.n (G.cp k)) 0 m.n m.n [] (rowCells m k) rfl rfl HM1.out HSR.out HRL.out (rowCells_one m k) (by omega) (by omega) (by omega) (by have := S1.out; omega) ?_; intro ad1 cp1 w7 ho7 hg7; rw [List.nil_append] at ho7; have hb7 : Below wr.heap.size wr w7 := B1.out.grown hg7 (by have := S1.out; omega) (fun g hg => (World.ownsRow.lt HM1.out g hg).1); have e7 : w7.cell? ⟨X, 0, none⟩ = some (.slice ja k jc) := (hb7.cell (p := ⟨X, 0, none⟩) hsx).trans e0; have hb8 : Below wr.heap.size wr (w7.alloc (.cells #[.slice ad1 m.n cp1] 60)) := hb7.alloc hb7.size _; have e8 : (w7.alloc (.cells #[.slice ad1 m.n cp1] 60)).cell? ⟨X, 0, none⟩ = some (.slice ja k jc) := (hb8.cell (p := ⟨X, 0, none⟩) hsx).trans e0; have H7 := hid ho7; have B7 := hid hb7; have B8 := hid hb8; have HS8 := hid (SrcC.lit w7 #[.slice ad1 m.n cp1] 60 1 [.slice ad1 m.n cp1] rfl); have HO8 := hid (owns_below HO.out hb8); have HX8 := hid ((hb8.block X hsx).trans HXB.out); have hm8 : w.heap.size ≤ (w7.alloc (.cells #[.slice ad1 m.n cp1] 60)).heap.size := Nat.le_trans hsw hb8.size; have HM8 := hid hm8; clear ho7 hg7 hb7 hb8 hm8)
        | (refine appsst (by rfl) 46 60 (.tmp 29) (.tmp 33) rfl w.heap.size 1 24 _ Try.underlying46 infoRowT rfl (by decide) (.slice ja k jc) (.slice (some ⟨w7.heap.size, 0, none⟩) 1 1) k 1 (k + 1) (rowVals2 m.n l) [.slice ad1 m.n cp1] rfl rfl HO8.out HS8.out rfl (by intro y hy; rw [List.mem_singleton] at hy; subst hy; rfl) rfl (by omega) (by omega) HM8.out ?_; intro ad9 cp9 w9 ho9 hg9; have HO9 := hid ho9; have HG9 := hid hg9; have hx9 := (hg9.block X (Nat.lt_of_lt_of_le hsx B8.out.size) (fun e => by obtain ⟨cur, hc⟩ := owns_ty HO8.out _ e.symm; rw [HX8.out] at hc; simp at hc)).trans HX8.out; have HX9 := hid hx9; have e9 : w9.cell? ⟨X, 0, none⟩ = some (.slice ja k jc) := (cell_of_row _ _ _ _ _ _ hx9).trans rfl; have f9 : w9.frozen? ⟨X, 0, none⟩ = false := frozen_of_row _ _ _ _ _ hx9; clear ho9 hg9 hx9))
      all_goals
        obtain ⟨gn, cn, z, hsl, hgz, hgb, hgc, hgm, hzz⟩ := owns_at (owns_below H7.out ((Below.refl _ w7).alloc (Nat.le_refl _) (.cells #[.slice ad1 m.n cp1] 60))) hn1
        simp only [Value.slice.injEq] at hsl
        obtain ⟨rfl, -, rfl⟩ := hsl
        have hk9 := kset12 w9 X 0 (.slice ad9 (k + 1) cp9)
        have kt1 : KT [60, 49] w.heap.size (w7.alloc (.cells #[.slice (some ⟨gn, 0, none⟩) m.n cp1] 60)) w9 := KT.of_keeps (Keeps.of_grown HG9.out) (fun q _ e => by
          obtain ⟨cur, hc⟩ := owns_ty HO8.out q e
          exact ⟨(World.ownsRow.lt HO8.out q e).1, _, _, _, hc, by simp⟩) HM8.out
        have kt2 : KT [60, 49] w.heap.size w9 (w9.setCell ⟨X, 0, none⟩ (.slice ad9 (k + 1) cp9)) := KT.of_keeps hk9 (fun q _ e => by
          subst e
          exact ⟨HXL.out, _, _, _, HX9.out, by simp⟩) (Nat.le_trans HM8.out HG9.out.size)
        have hrow8 : RowsC (w7.alloc (.cells #[.slice (some ⟨gn, 0, none⟩) m.n cp1] 60)) w.heap.size m.n m.c (l ++ [(gn, cp1)]) := (HRW.out.keep (fun q hq => B8.out.block q hq)).snoc hgz (fun q hq => hzz q _ hq (by rw [HLL.out]; unfold rowCells; rw [List.getElem?_map, List.getElem?_range hq]; rfl)) (by omega) hgc hgm (fun x hx => by have := HRW.out.lt x hx; omega)
        have hrow9 := hrow8.kt (kt1.trans kt2) (by decide)
        have hup9 := owns_kt (owns_below HU.out B8.out) (kt1.trans kt2) (by decide)
        have hown9 := owns_by HO9.out (w' := w9.setCell ⟨X, 0, none⟩ (.slice ad9 (k + 1) cp9)) (fun q hq => hk9.block q (World.ownsRow.lt HO9.out q hq).2 (fun e => by
          obtain ⟨cur, hc⟩ := owns_ty HO9.out _ hq
          subst e; rw [HX9.out] at hc; simp at hc))
        have hx10 := heap_setCell_arr w9 X 0 _ _ _ (.slice ad9 (k + 1) cp9) HX9.out
        have hb10 : Below w.heap.size w (w9.setCell ⟨X, 0, none⟩ (.slice ad9 (k + 1) cp9)) := (HB.out.trans (B8.out.mono hsw)).trans (kt1.trans kt2).below
        have HX10 := hid hx10
        have HO10 := hid hown9
        have HR10 := hid hrow9
        have HU10 := hid hup9
        have HB10 := hid hb10
        clear hx10 hown9 hrow9 hrow8 hup9 hb10 kt1 kt2 hk9 hgz hgb hgc hgm hzz
        go_wp2
        go_roundw
        case rel => exact ⟨k + 1, .slice ad9 (k + 1) cp9, l ++ [(gn, cp1)], by omega, by go_num, by rw [List.length_append, HLL.out]; rfl, HX10.out.trans (by simp), (by
          have := HO10.out
          rwa [show rowVals2 m.n l ++ [Value.slice (some ⟨gn, 0, none⟩) m.n cp1] = rowVals2 m.n (l ++ [(gn, cp1)]) by simp [rowVals2]] at this), HU10.out, HR10.out, HB10.out⟩
        case measure => simp [intOf]; omega
    · have e : k = m.r := by omega
      have hki : ¬ (k : Int) < (m.r : Int) := by omega
      have hHO := HO.out
      rw [e] at hHO
      obtain ⟨bc, cc, zc, hsl, hc1, hc2, hc3, hc4, hc5⟩ := owns_at hHO (by omega)
      obtain ⟨bu, cu, zu, hsu, hu1, hu2, hu3, hu4, hu5⟩ := owns_at HU.out (by omega)
      simp only [Value.slice.injEq] at hsl hsu
      obtain ⟨rfl, -, rfl⟩ := hsl
      obtain ⟨rfl, -, rfl⟩ := hsu
      have hll := HLL.out
      rw [e] at hll
      have HQ := hid (show RxAt wr w.heap.size ⟨X, bc, jc, bu, uc, fun i => (l.map Prod.fst).getD i 0, fun i => (l.map Prod.snd).getD i 0⟩ m by
        have hat : ∀ i, i < m.r → l[i]? = some ((l.map Prod.fst).getD i 0, (l.map Prod.snd).getD i 0) := fun i hi => by
          rw [List.getD_eq_getElem?_getD, List.getD_eq_getElem?_getD, List.getElem?_map, List.getElem?_map, List.getElem?_eq_getElem (by omega)]; rfl
        refine ⟨by rw [← e]; exact HXB.out, ⟨zc, hc1, fun i hi => hc5 i _ hi (by unfold rowVals2; rw [List.getElem?_map, hat i hi]; rfl)⟩, fun i hi => HRW.out.at_ i _ (hat i hi), ⟨zu, hu1, fun i hi => hu5 i _ hi (by unfold upVals; rw [List.getElem?_map, List.getElem?_range hi]; rfl)⟩, fun i j hi hj he => getD_inj' HRW.out.nd (by simp; omega) (by simp; omega) he, HXL.out, hc2, hu2, fun i hi => (HRW.out.low _ (List.mem_of_getElem? (hat i hi))).1, hc3, hc4, hu3, hu4, fun i hi => (HRW.out.low _ (List.mem_of_getElem? (hat i hi))).2, hr1, hr8, hn1, hn16, HX.out.c32⟩)
      clear hc1 hc2 hc3 hc4 hc5 hu1 hu2 hu3 hu4 hu5 hHO e hlt hll
      go_wp2
      go_ret
      exact ⟨_, rfl, HQ.out, HB.out⟩

end Go.Proofs.Ytdongghjchnpbaa

namespace Go.Proofs.Ytdongghjchnpbaa
open Go.RowKit Go.Shelf
set_option linter.unusedVariables false
set_option linter.unusedSimpArgs false

/-- A row of its own: its cells from its block's head on. -/
def TkC (w : World) (g n : Nat) (f : Nat → Nat) : Prop := ∃ z : Array Value, w.heap[g]? = some (.cells z 33 (0, 0)) ∧ ∀ k, k < n → z[k]? = some (uv (f k))
theorem TkC.cell {w : World} {g n : Nat} {f : Nat → Nat} (h : TkC w g n f) {k : Nat} (hk : k < n) : w.cell? ⟨g, k, none⟩ = some (.int .u32 (f k : Nat)) := by
  obtain ⟨z, h1, h2⟩ := h
  rw [cell_of_row _ _ _ _ _ _ h1]; exact h2 k hk
theorem TkC.frz {w : World} {g n : Nat} {f : Nat → Nat} (h : TkC w g n f) (k : Nat) : w.frozen? ⟨g, k, none⟩ = false := by
  obtain ⟨z, h1, h2⟩ := h
  exact frozen_of_row _ _ _ _ _ h1
theorem TkC.to {w w' : World} {g n : Nat} {f : Nat → Nat} (h : TkC w g n f) (hb : w'.heap[g]? = w.heap[g]?) : TkC w' g n f := by
  obtain ⟨z, h1, h2⟩ := h
  exact ⟨z, hb.trans h1, h2⟩
theorem TkC.lt {w : World} {g n : Nat} {f : Nat → Nat} (h : TkC w g n f) : g < w.heap.size := by
  obtain ⟨z, h1, _⟩ := h
  exact (Array.getElem?_eq_some_iff.1 h1).1
theorem TkC.put {w : World} {g n : Nat} {f : Nat → Nat} (h : TkC w g n f) {x j : Nat} (hx : x < n) : TkC (w.setCell ⟨g, x, none⟩ (.int .u32 (j : Nat))) g n (fun k => if k = x then j else f k) := by
  obtain ⟨z, h1, h2⟩ := h
  refine ⟨_, heap_setCell_arr w g x z _ _ _ h1, fun k hk => ?_⟩
  have hxz : x < z.size := (Array.getElem?_eq_some_iff.1 (h2 x hx)).1
  by_cases e : k = x
  · subst e
    have h3 : (z.setIfInBounds k (.int .u32 (j : Nat)))[k]? = some (.int .u32 (j : Nat)) := by rw [Array.getElem?_setIfInBounds_self_of_lt hxz]
    rw [h3]
    simp [uv]
  · have h3 : (z.setIfInBounds x (.int .u32 (j : Nat)))[k]? = z[k]? := Array.getElem?_setIfInBounds_ne (fun h => e h.symm)
    rw [h3, h2 k hk]
    simp [e]
theorem TkC.eq {w : World} {g n : Nat} {f f' : Nat → Nat} (h : TkC w g n f) (he : ∀ k, k < n → f k = f' k) : TkC w g n f' := by
  obtain ⟨z, h1, h2⟩ := h
  exact ⟨z, h1, fun k hk => by rw [← he k hk]; exact h2 k hk⟩

/-- In the midst of Fill. -/
structure FlAt (w wr : World) (g n : Nat) (st : (Nat → Nat) × List Nat) (ov : Value) : Prop where
  tk : TkC wr g n st.1
  out : wr.ownsRow w.heap.size 33 1 ov st.2.length (st.2.map uv)
  ne : ∀ q, ov.ownBlock = some q → q ≠ g
  bel : Below w.heap.size w wr
  lo : w.heap.size ≤ g

theorem FlAt.below {w wr w' : World} {g n : Nat} {st : (Nat → Nat) × List Nat} {ov : Value} (h : FlAt w wr g n st ov) (hb : Below wr.heap.size wr w') : FlAt w w' g n st ov :=
  ⟨h.tk.to (hb.block g h.tk.lt), owns_below h.out hb, h.ne, h.bel.trans (hb.mono h.bel.size), h.lo⟩

def FlAt.ov {w wr : World} {g n : Nat} {st : (Nat → Nat) × List Nat} {ov : Value} (_ : FlAt w wr g n st ov) : Value := ov

theorem rfill_nil (w : World) (row : Int) :
    Calls Try.prog 52 #[.pointer none, .int .i64 row] w fun e w' => e = .returned (.slice none 0 0) ∧ w = w' := by
  go_enter Try.func52, Try.ntmps52
  go_wp2_with fail
  go_ret
  exact ⟨rfl, rfl⟩

theorem rfill_no (w : World) (lo : Nat) (G : Geo) (m : Mx) (row : Int) (h : RxAt w lo G m) (hr : row < 0 ∨ (m.r : Int) ≤ row) :
    Calls Try.prog 52 #[.pointer (some ⟨G.x, 0, none⟩), .int .i64 row] w fun e w' => e = .returned (.slice none 0 0) ∧ w = w' := by
  have hc0 := h.c0
  clear h
  by_cases h0 : row < 0
  · clear hr
    go_enter Try.func52, Try.ntmps52
    go_wp2_with fail
    go_ret
    exact ⟨rfl, rfl⟩
  · have h1 : (m.r : Int) ≤ row := by omega
    have h2 : row ≥ (m.r : Int) := h1
    clear hr
    go_enter Try.func52, Try.ntmps52
    go_wp2_with fail
    go_ret
    exact ⟨rfl, rfl⟩

set_option maxRecDepth 100000 in
set_option maxHeartbeats 8000000 in
theorem rfill_any (w : World) (lo : Nat) (G : Geo) (m : Mx) (row : Nat) (h : RxAt w lo G m) (ho : One m) (hrow : row < m.r) :
    Calls Try.prog 52 #[.pointer (some ⟨G.x, 0, none⟩), .int .i64 row] w fun e w' => ∃ v, e = .returned v ∧ w'.ownsRow w.heap.size 33 1 v (m.fill row).length ((m.fill row).map uv) ∧ Below w.heap.size w w' := by
  have hc0 := h.c0
  have hrw := h.row row hrow
  obtain ⟨hcp1, hcp2⟩ := h.cpn row hrow
  have hccr := h.ccr
  have hccm := h.ccm
  have hr8 := h.r8
  have hn16 := h.n16
  have hn1 := h.n1
  have hii : (row : Int) < (m.r : Int) := by omega
  have hi0 : ¬ (row : Int) < 0 := by omega
  have hi1 : ¬ (row : Int) ≥ (m.r : Int) := by omega
  have hi2 : ¬ (m.r : Int) ≤ (row : Int) := by omega
  have HX := hid h
  have HONE := hid ho
  have HFL := hid (fun k => fillRow_len m row k)
  have HRL := hid (fun i => show (m.row i).length ≤ 16 from Nat.le_trans (jobs_len _ _) (Nat.le_trans (m.at_len _) hn16))
  have hb0 : Below w.heap.size w (w.alloc (.cells #[] 33)) := (Below.refl _ _).alloc (Nat.le_refl _) _
  have hox : (w.alloc (.cells #[] 33)).ownsRow w.heap.size 33 1 (.slice (some ⟨w.heap.size, 0, none⟩) 0 0) 0 [] := ⟨rfl, .inr ⟨w.heap.size, 0, #[], rfl, Nat.le_refl _, heap_alloc_new w _, Nat.le_refl _, by unfold maxLen; omega, rfl, rfl⟩⟩
  have HOX := hid hox
  have hsr := (h.below hb0 (Nat.le_refl _)).srcR row hrow (G.cp row)
  have HSR := hid hsr
  have hc0a := (h.below hb0 (Nat.le_refl _)).c0
  have hrwa := (h.below hb0 (Nat.le_refl _)).row row hrow
  have HB0 := hid hb0
  clear h ho hox hsr hb0
  go_enter Try.func52, Try.ntmps52
  go_upto_region 5 with (first
    | (at_builtin; (refine appsw (by rfl) 60 33 (.tmp 33) (.tmp 40) rfl w.heap.size 1 4 _ Try.underlying60 info32J rfl (by decide) _ _ 0 m.n m.n _ _ rfl rfl HOX.out HSR.out (by unfold rowCells; simp) (rowCells_one m row) (by omega) (by omega) (by omega) (by simp) ?_); intro ad1 cp1 w1 ho1 hg1; have HO1 := hid ho1; have HG1 := hid hg1; clear ho1 hg1)
    | fail)
  have hb1 : Below w.heap.size w w1 := HB0.out.grown HG1.out (by simp) (fun q hq => (World.ownsRow.lt HOX.out q hq).1)
  have HB1 := hid hb1
  have hoo := HO1.out
  rw [List.nil_append] at hoo
  obtain ⟨g, ct, z, hve, hgz, hglo, hct1, hct2, hzz⟩ := owns_at hoo (by omega)
  simp only [Value.slice.injEq] at hve
  obtain ⟨rfl, -, rfl⟩ := hve
  have HTK0 := hid (show FlAt w w1 g m.n (m.line row, []) (.slice none 0 0) from ⟨⟨z, hgz, fun k hk => hzz k _ hk (by unfold rowCells Mx.line; rw [List.getElem?_map, List.getElem?_range hk]; rfl)⟩, World.ownsRow_nil _ _ _ _, (fun q hq => by cases hq), hb1, hglo⟩)
  have hc0' := (HX.out.below hb1 (Nat.le_refl _)).c0
  clear hb1 hoo hgz hzz hrw hc0 hc0a hrwa
  go_wp2_with fail
  go_loopw [5, 47] (fun ov q wr => ∃ k : Nat, q = .int .i64 k ∧ k ≤ m.r ∧ FlAt w wr g m.n ((List.range k).foldl (fillRow m row) (m.line row, [])) ov) (fun _ q _ => m.r - (intOf q).toNat)
  case atStart => exact ⟨0, rfl, Nat.zero_le _, HTK0.out⟩
  case round =>
    obtain ⟨k, rfl, hk, hf⟩ := hrel
    have HF := hid hf
    clear hf
    by_cases hkr : k < m.r
    · have hki : (k : Int) < (m.r : Int) := by omega
      have HFS := hid (foldl_range_succ (fillRow m row) (m.line row, []) k)
      have hfl := HFL.out k
      obtain ⟨st, hst⟩ : ∃ st, st = (List.range k).foldl (fillRow m row) (m.line row, []) := ⟨_, rfl⟩
      rw [← hst] at HF HFS hfl
      have hfl2 : st.2.length ≤ 128 := by
        have h2 : k * m.n ≤ 8 * 16 := Nat.mul_le_mul (by omega) hn16
        omega
      clear hst hfl
      by_cases hkw : k = row
      · have HE := hid (show (List.range (k + 1)).foldl (fillRow m row) (m.line row, []) = st by rw [HFS.out]; unfold fillRow; rw [if_pos hkw])
        have hke : ((k : Int) == (row : Int)) = true := by rw [hkw]; simp
        subst hkw
        clear hke
        go_wp2_with fail
        go_roundw
        case rel => exact ⟨k + 1, by go_num, by omega, by rw [HE.out]; exact HF.out⟩
        case measure => simp [intOf]; omega
      · have HE := hid (show (List.range (k + 1)).foldl (fillRow m row) (m.line row, []) = (m.row k).foldl (fillJob m k) st by rw [HFS.out]; unfold fillRow; rw [if_neg hkw])
        have hke : ((k : Int) == (row : Int)) = false := by rw [beq_eq_false_iff_ne]; omega
        have hke2 : (k == row) = false := by rw [beq_eq_false_iff_ne]; exact hkw
        have hke3 : ¬ (k : Int) = (row : Int) := by omega
        have HRW1 := hid (rrow_any wr lo G m k (HX.out.below HF.out.bel (Nat.le_refl _)) HONE.out hkr)
        have hrl := HRL.out k
        have HJM := hid (fun j (hj : j ∈ m.row k) => (HONE.out.row_where hkr hj))
        have HJL := hid (fun t => fillJob_len m k ((m.row k).take t) st)
        obtain ⟨J, hJ⟩ : ∃ J, J = m.row k := ⟨_, rfl⟩
        rw [← hJ] at HRW1 hrl HE HJM HJL
        obtain ⟨nj, hnj⟩ : ∃ n, n = J.length := ⟨_, rfl⟩
        rw [← hnj] at HRW1 hrl
        have HNJ := hid hnj
        obtain ⟨W0, hW0⟩ : ∃ n, n = wr.heap.size := ⟨_, rfl⟩
        have hgW : g < W0 := by rw [hW0]; exact HF.out.tk.lt
        have HGW0 := hid hgW
        have HOW0 := hid (show ∀ q, Value.ownBlock HF.out.ov = some q → q < W0 from fun q hq => by rw [hW0]; exact (World.ownsRow.lt HF.out.out q hq).2)
        clear hJ hnj hgW
        go_upto_region 10 with (first
          | (go_at_call 51; (with_reducible refine HRW1.out.mono ?_); rintro e w2 ⟨v2, rfl, hv2, hb2⟩; obtain ⟨a2, c2, rfl, hc2a, hc2b⟩ := owns_slice hv2; have HF2 := hid (HF.out.below hb2); have HV2 := hid (RdV.of_own hv2); have HGL := hid (show ∀ g' o', a2 = some ⟨g', o', none⟩ → W0 ≤ g' ∧ g' < w2.heap.size from fun g' o' e => by subst e; rcases owns_shape hv2 with ⟨h2, _⟩ | ⟨g9, c9, h2, h3, h4, _⟩ <;> simp at h2; omega); have HW2 := hid (show W0 ≤ w2.heap.size by rw [hW0]; exact hb2.size); clear hv2 hb2)
          | fail)
        go_loopw [5, 57] (fun ov q wr => ∃ t : Nat, q = .int .i64 t ∧ t ≤ nj ∧ FlAt w wr g m.n ((J.take t).foldl (fillJob m k) st) ov ∧ Keeps (fun q => q < W0 ∨ w2.heap.size ≤ q) w2 wr ∧ (∀ q, ov.ownBlock = some q → q < W0 ∨ w2.heap.size ≤ q)) (fun _ q _ => nj - (intOf q).toNat)
        case atStart => exact ⟨0, rfl, Nat.zero_le _, HF2.out, Keeps.refl _ _, fun q hq => .inl (HOW0.out q hq)⟩
        case round =>
          obtain ⟨t, rfl, ht, hf, hkp, hob⟩ := hrel
          have HOB := hid hob
          clear hob
          have HF3 := hid hf
          have HKP := hid hkp
          by_cases htn : t < nj
          · have hti : (t : Int) < (nj : Int) := by omega
            obtain ⟨j, hj⟩ : ∃ j, J[t]? = some j := ⟨_, List.getElem?_eq_getElem (by have := HNJ.out; omega)⟩
            have hrdj := HV2.out.blk hkp (fun g' o' e => by
              have h2 := HGL.out g' o' e
              omega)
            obtain ⟨-, gj, oj, rfl, hgj, hcellj⟩ := RdV.at1 hrdj t (uv j) (by rw [List.getElem?_map, hj]; rfl)
            have hcj : wr.cell? ⟨gj, oj + t, none⟩ = some (.int .u32 (j : Nat)) := hcellj
            obtain ⟨hjw, hj0⟩ := HJM.out j (List.mem_of_getElem? hj)
            have HTT := hid (foldl_take_succ (fillJob m k) st J t j hj)
            have hjl := HJL.out t
            obtain ⟨sq, hsq⟩ : ∃ sq, sq = (J.take t).foldl (fillJob m k) st := ⟨_, rfl⟩
            rw [← hsq] at HF3 HTT hjl
            have hsl : sq.2.length ≤ 200 := by rw [List.length_take] at hjl; omega
            have HRF := hid (rof_any wr lo G m j (HX.out.below hf.bel (Nat.le_refl _)))
            rw [hjw, Mx.nodes_of hjw] at HRF
            have HNL := hid (fun x (hx : x ∈ m.own k j) => (own_mem.1 hx).1)
            have HFJ := hid (show fillJob m k sq j = if (m.own k j).all (fun n => sq.1 n == 0) then (over sq.1 (m.own k j) j, sq.2 ++ [j]) else sq from rfl)
            have HOL := hid (show (m.own k j).length ≤ 16 from Nat.le_trans (m.at_len _) hn16)
            obtain ⟨Q, hQ⟩ : ∃ Q, Q = m.own k j := ⟨_, rfl⟩
            rw [← hQ] at HRF HNL HFJ HOL
            obtain ⟨nq, hnq⟩ : ∃ n, n = Q.length := ⟨_, rfl⟩
            rw [← hnq] at HRF HOL
            have HNQ := hid hnq
            have hq16 := HOL.out
            clear hf hkp hj hrdj hcellj hjw hj0 hsq hjl hQ hnq
            go_upto_region 14 with (first
              | (go_at_call 38; (with_reducible refine HRF.out.mono ?_); rintro e w5 ⟨vn, rfl, hvn, hb5⟩; obtain ⟨an, cn, rfl, hcn1, hcn2⟩ := owns_slice hvn; have HF5 := hid (HF3.out.below hb5); have HVN := hid (RdV.of_own hvn); have HK5 := hid (HKP.out.trans (Keeps.of_below hb5 (fun q hq hge => absurd hq (by omega)))); have HGN := hid (show ∀ g' o', an = some ⟨g', o', none⟩ → ¬ g' = g from fun g' o' e => by subst e; have h1 := HF3.out.tk.lt; rcases owns_shape hvn with ⟨h2, _⟩ | ⟨g9, c9, h2, h3, _⟩ <;> simp at h2; omega); clear hvn hb5)
              | fail)
            go_wp2_with fail
            go_loopw [13, 70] (fun bv q wr => ∃ u : Nat, q = .int .i64 u ∧ u ≤ nq ∧ bv = .bool ((Q.take u).all fun n => sq.1 n == 0) ∧ wr = w5) (fun _ q _ => nq - (intOf q).toNat)
            case atStart => exact ⟨0, rfl, Nat.zero_le _, rfl, rfl⟩
            case round =>
              obtain ⟨u, rfl, hu, rfl, rfl⟩ := hrel
              by_cases hun : u < nq
              · have hui : (u : Int) < (nq : Int) := by omega
                obtain ⟨x, hx⟩ : ∃ x, Q[u]? = some x := ⟨_, List.getElem?_eq_getElem (by have := HNQ.out; omega)⟩
                obtain ⟨-, gn, on, rfl, hgn, hcelln⟩ := RdV.at1 HVN.out u (iv x) (by rw [List.getElem?_map, hx]; rfl)
                have hcx : wr.cell? ⟨gn, on + u, none⟩ = some (.int .i64 (x : Nat)) := hcelln
                have hxn := HNL.out x (List.mem_of_getElem? hx)
                have hxi : (x : Int) < (m.n : Int) := by omega
                have hx0 : (0 : Int) ≤ (x : Int) := by omega
                have htk := HF5.out.tk.cell hxn
                have HTU := hid (take_snoc' _ _ _ hx)
                generalize hall : (Q.take u).all (fun n => sq.1 n == 0) = al at *
                have HAL := hid hall
                clear hx hcelln hall
                cases al with
                | false =>
                  go_wp2_with fail
                  go_roundw
                  case rel => exact ⟨u + 1, by go_num, by omega, by rw [HTU.out, List.all_append, HAL.out]; rfl, trivial⟩
                  case measure => simp [intOf]; omega
                | true =>
                  by_cases hz : sq.1 x = 0
                  · have HZ := hid hz
                    rw [hz] at htk
                    clear hz
                    go_wp2_with fail
                    go_roundw
                    case rel => exact ⟨u + 1, by go_num, by omega, by rw [HTU.out, List.all_append, HAL.out]; simp [HZ.out], trivial⟩
                    case measure => simp [intOf]; omega
                  · have HZ := hid hz
                    have hz1 : (((sq.1 x : Nat) : Int) == 0) = false := by rw [beq_eq_false_iff_ne]; omega
                    have HZ2 := hid (show (sq.1 x == 0) = false by rw [beq_eq_false_iff_ne]; exact hz)
                    obtain ⟨sx, hsx⟩ : ∃ z, z = sq.1 x := ⟨_, rfl⟩
                    rw [← hsx] at htk hz1
                    clear hsx
                    clear hz
                    go_wp2_with fail
                    go_roundw
                    case rel => exact ⟨u + 1, by go_num, by omega, by rw [HTU.out, List.all_append, HAL.out]; simp [HZ2.out], trivial⟩
                    case measure => simp [intOf]; omega
              · have hui : ¬ (u : Int) < (nq : Int) := by omega
                have htk : Q.take u = Q := by rw [show u = nq by omega, HNQ.out, List.take_length]
                rw [htk]
                cases hal : Q.all (fun n => sq.1 n == 0) with
                | false =>
                  have HFE := hid (show fillJob m k sq j = sq by rw [HFJ.out, hal]; rfl)
                  clear hal htk
                  go_wp2_with fail
                  go_roundw
                  case rel => exact ⟨t + 1, by go_num, by omega, by rw [HTT.out, HFE.out]; exact HF5.out, HK5.out, HOB.out⟩
                  case measure => simp [intOf]; omega
                | true =>
                  have HFE := hid (show fillJob m k sq j = (over sq.1 Q j, sq.2 ++ [j]) by rw [HFJ.out, hal]; rfl)
                  clear hal htk
                  obtain ⟨w6, hw6⟩ : ∃ w6, w6 = wr := ⟨_, rfl⟩
                  subst hw6
                  go_wp2_with fail
                  go_loopw [86] (fun q wr => ∃ u : Nat, q = .int .i64 u ∧ u ≤ nq ∧ TkC wr g m.n (over sq.1 (Q.take u) j) ∧ Keeps (fun q => q = g) w6 wr) (fun q _ => nq - (intOf q).toNat)
                  case atStart => exact ⟨0, rfl, Nat.zero_le _, HF5.out.tk, Keeps.refl _ _⟩
                  case round =>
                    obtain ⟨u, rfl, hu, htc, hkq⟩ := hrel
                    have HTC := hid htc
                    have HKQ := hid hkq
                    by_cases hun : u < nq
                    · have hui : (u : Int) < (nq : Int) := by omega
                      obtain ⟨x, hx⟩ : ∃ x, Q[u]? = some x := ⟨_, List.getElem?_eq_getElem (by have := HNQ.out; omega)⟩
                      obtain ⟨-, gn, on, rfl, hgn, hcelln⟩ := RdV.at1 (HVN.out.blk hkq HGN.out) u (iv x) (by rw [List.getElem?_map, hx]; rfl)
                      have hcx : wr.cell? ⟨gn, on + u, none⟩ = some (.int .i64 (x : Nat)) := hcelln
                      have hxn := HNL.out x (List.mem_of_getElem? hx)
                      have hxi : (x : Int) < (m.n : Int) := by omega
                      have hx0 : (0 : Int) ≤ (x : Int) := by omega
                      have htk := htc.cell hxn
                      have hfz := htc.frz x
                      have HN2 := hid (show TkC (wr.setCell ⟨g, x, none⟩ (.int .u32 (j : Nat))) g m.n (over sq.1 (Q.take (u + 1)) j) from by
                        refine (htc.put (j := j) hxn).eq fun q hq => ?_
                        rw [take_snoc' _ _ _ hx, over_at, over_at]
                        simp only [List.mem_append, List.mem_singleton]
                        by_cases e : q = x <;> simp [e])
                      have HK2 := hid (show Keeps (fun q => q = g) w6 (wr.setCell ⟨g, x, none⟩ (.int .u32 (j : Nat))) from hkq.setCell (p := ⟨g, x, none⟩) (fun _ => rfl) _)
                      clear htc hkq hx hcelln
                      go_wp2_with fail
                      go_roundw
                      case rel => exact ⟨u + 1, by go_num, by omega, HN2.out, HK2.out⟩
                      case measure => simp [intOf]; omega
                    · have hui : ¬ (u : Int) < (nq : Int) := by omega
                      have htk : Q.take u = Q := by rw [show u = nq by omega, HNQ.out, List.take_length]
                      rw [htk] at htc
                      have HOW := hid (show wr.ownsRow w.heap.size 33 1 _ sq.2.length (sq.2.map uv) from owns_by HF5.out.out fun q hq => hkq.block q (World.ownsRow.lt HF5.out.out q hq).2 (fun e => HF5.out.ne q hq e))
                      have HBW := hid (show Below w.heap.size w wr from HF5.out.bel.trans (hkq.below HF5.out.bel.size (fun q hq => by rw [hq]; exact HF5.out.lo)))
                      have HTCQ := hid htc
                      have HKW := hid (HK5.out.trans (hkq.mono fun q _ e => .inl (by rw [e]; exact HGW0.out)))
                      have hszw := HBW.out.size
                      have HGW := hid (show g < wr.heap.size from htc.lt)
                      generalize hol : sq.2.length = ol at *
                      have HOLL := hid hol
                      have hof := hid (owns_below HOW.out ((Below.refl _ _).alloc (Nat.le_refl _) (.cells #[.int .u32 (j : Nat)] 33)))
                      have hsrc := hid (SrcC.lit wr #[.int .u32 (j : Nat)] 33 1 [uv j] rfl)
                      have HNE := hid HF5.out.ne
                      clear htc hkq htk hol
                      go_wp2_with (first
                        | (at_builtin; (refine appsw2 (by rfl) 60 33 (.tmp 95) (.tmp 97) rfl w.heap.size 1 4 _ Try.underlying60 info32J rfl (by decide) _ _ ol 1 (ol + 1) _ _ rfl rfl hof.out hsrc.out rfl (by intro y hy; rw [List.mem_singleton] at hy; subst hy; rfl) rfl (by omega) (by omega) (by simp; omega) ?_); intro adA cpA wA hoA hgA hqA; have HOA := hid hoA; have HGA := hid hgA; have HQA := hid hqA; clear hoA hgA hqA)
                        | fail)
                      have hbA : Below w.heap.size w wA := (HBW.out.alloc (by omega) (.cells #[.int .u32 (j : Nat)] 33)).grown HGA.out (by simp; omega) (fun q hq => (World.ownsRow.lt HOW.out q hq).1)
                      have hgA : wA.heap[g]? = wr.heap[g]? := by
                        have h1 := (Keeps.of_grown HGA.out).block g (by have := HGW.out; simp; omega) (fun e => HNE.out g e rfl)
                        rw [h1]
                        exact ((Below.refl wr.heap.size wr).alloc (Nat.le_refl _) (.cells #[.int .u32 (j : Nat)] 33)).block g HGW.out
                      have hkA : Keeps (fun q => q < W0 ∨ w2.heap.size ≤ q) wr wA := (Keeps.of_below (S := fun q => q < W0 ∨ w2.heap.size ≤ q) ((Below.refl wr.heap.size wr).alloc (Nat.le_refl _) (.cells #[.int .u32 (j : Nat)] 33)) (fun q hq hge => absurd hq (by omega))).trans ((Keeps.of_grown HGA.out).mono fun q _ e => HOB.out q e)
                      go_roundw
                      case rel => exact ⟨t + 1, by go_num, by omega, by rw [HTT.out, HFE.out]; exact ⟨HTCQ.out.to hgA, by rw [List.length_append, HOLL.out, List.map_append]; exact HOA.out, (fun q hq => by rcases HQA.out q hq with h1 | h1; exact HNE.out q h1; have h2 := HGW.out; simp at h1; omega), hbA, HF5.out.lo⟩, HKW.out.trans hkA, (fun q hq => by rcases HQA.out q hq with h1 | h1; exact HOB.out q h1; have h2 := HKW.out.size; simp at h1; exact .inr (by omega))⟩
                      case measure => simp [intOf]; omega
          · have hti : ¬ (t : Int) < (nj : Int) := by omega
            have htk : J.take t = J := by rw [show t = nj by omega, HNJ.out, List.take_length]
            have HF4 := hid (show FlAt w wr g m.n (J.foldl (fillJob m k) st) _ from by rw [htk] at hf; exact hf)
            clear hf hkp htk
            go_wp2_with fail
            go_roundw
            case rel => exact ⟨k + 1, by go_num, by omega, by rw [HE.out]; exact HF4.out⟩
            case measure => simp [intOf]; omega
    · have hki : ¬ (k : Int) < (m.r : Int) := by omega
      have hkr2 : k = m.r := by omega
      have HF2 := hid (show FlAt w wr g m.n (m.filled row) _ from by have h1 := HF.out; rw [hkr2] at h1; exact h1)
      clear hkr2 hkr HF
      go_wp2_with fail
      go_ret
      exact ⟨_, rfl, HF2.out.out, HF2.out.bel⟩

end Go.Proofs.Ytdongghjchnpbaa

namespace Go.Proofs.Ytdongghjchnpbaa
open Go.RowKit Go.Shelf
set_option linter.unusedVariables false
set_option linter.unusedSimpArgs false

def Mx.inR (m : Mx) (row : Int) : Bool := decide (0 ≤ row) && decide (row < m.r)
theorem inR_yes {m : Mx} {row : Int} (h : m.inR row = true) : row = (row.toNat : Nat) ∧ row.toNat < m.r := by
  unfold Mx.inR at h
  simp only [Bool.and_eq_true, decide_eq_true_eq] at h
  omega
theorem inR_no {m : Mx} {row : Int} (h : m.inR row = false) : row < 0 ∨ (m.r : Int) ≤ row := by
  unfold Mx.inR at h
  simp only [Bool.and_eq_false_iff, decide_eq_false_iff_not] at h
  omega
def Mx.rowI (m : Mx) (row : Int) : List Nat := if m.inR row then m.row row.toNat else []
def Mx.fillI (m : Mx) (row : Int) : List Nat := if m.inR row then m.fill row.toNat else []
def Mx.freeI (m : Mx) (row : Int) : Nat := if m.inR row then (m.free row.toNat).length else 0
def Mx.atI (m : Mx) (i j : Int) : Nat := if m.inR i && (decide (0 ≤ j) && decide (j < m.n)) then m.c (16 * i.toNat + j.toNat) else 0

/-- A slice of these numbers is told. -/
def Told32 (w : World) (l : List Nat) (e : Ending) (w' : World) : Prop := ∃ a c, e = .returned (.slice a l.length c) ∧ RdV w' (.slice a l.length c) (l.map uv) ∧ Below w.heap.size w w'
theorem Told32.nil {w : World} {e : Ending} {w' : World} (he : e = .returned (.slice none 0 0)) (hb : Below w.heap.size w w') : Told32 w [] e w' := ⟨none, 0, he, RdV.nil _, hb⟩
theorem Told32.own {w : World} {l : List Nat} {e : Ending} {w' : World} {v : Value} {t : TypeId} {base : Nat} (he : e = .returned v) (ho : w'.ownsRow base t 1 v l.length (l.map uv)) (hb : Below w.heap.size w w') : Told32 w l e w' := by
  obtain ⟨a, c, rfl, -, -⟩ := owns_slice ho
  exact ⟨a, c, he, RdV.of_own ho, hb⟩

theorem row_flat (w : World) (b : Nat) (m : Mx) (row : Int) (h : MxAt w b m) :
    Calls Try.prog 47 #[.pointer (some ⟨b, 0, none⟩), .int .i64 row] w (Told32 w (m.rowI row)) := by
  unfold Mx.rowI
  cases hr : m.inR row with
  | true =>
    obtain ⟨h1, h2⟩ := inR_yes hr
    have h3 := row_any w b row.toNat m h h2
    rw [← h1] at h3
    exact h3.mono fun e w' ⟨v, he, ho, _, hb⟩ => Told32.own he ho hb
  | false => exact (row_no w b m row h (inR_no hr)).mono fun e w' ⟨he, hb⟩ => Told32.nil he hb
theorem fill_flat (w : World) (b : Nat) (m : Mx) (row : Int) (h : MxAt w b m) :
    Calls Try.prog 34 #[.pointer (some ⟨b, 0, none⟩), .int .i64 row] w (Told32 w (m.fillI row)) := by
  unfold Mx.fillI
  cases hr : m.inR row with
  | true =>
    obtain ⟨h1, h2⟩ := inR_yes hr
    have h3 := fill_any w b row.toNat m h h2
    rw [← h1] at h3
    exact h3.mono fun e w' ⟨v, he, ho, hb⟩ => Told32.own he ho hb
  | false => exact (fill_no w b m row h (inR_no hr)).mono fun e w' ⟨he, hb⟩ => Told32.nil he (by rw [← hb]; exact Below.refl _ _)
theorem free_flat (w : World) (b : Nat) (m : Mx) (row : Int) (h : MxAt w b m) :
    Calls Try.prog 31 #[.pointer (some ⟨b, 0, none⟩), .int .i64 row] w fun e w' => e = .returned (.int .i64 (m.freeI row : Nat)) ∧ Below w.heap.size w w' := by
  unfold Mx.freeI
  cases hr : m.inR row with
  | true =>
    obtain ⟨h1, h2⟩ := inR_yes hr
    have h3 := free_any w b row.toNat m h h2
    rw [← h1] at h3
    exact h3
  | false => exact (free_no w b m row h (inR_no hr)).mono fun e w' ⟨he, hb⟩ => ⟨he, by rw [← hb]; exact Below.refl _ _⟩
theorem at_flat (w : World) (b : Nat) (m : Mx) (i j : Int) (h : MxAt w b m) :
    Calls Try.prog 46 #[.pointer (some ⟨b, 0, none⟩), .int .i64 i, .int .i64 j] w fun e w' => e = .returned (.int .u32 (m.atI i j : Nat)) ∧ w = w' := by
  unfold Mx.atI
  cases hr : m.inR i with
  | true =>
    obtain ⟨h1, h2⟩ := inR_yes hr
    by_cases hj : 0 ≤ j ∧ j < m.n
    · have h3 := at_yes w b m i.toNat j.toNat h h2 (by omega)
      rw [← h1, show ((j.toNat : Nat) : Int) = j by omega] at h3
      rw [if_pos (by simp [hj.1, hj.2])]
      exact h3
    · rw [if_neg (by simp; omega)]
      exact at_no w b m i j h (.inr ⟨by omega, by omega⟩)
  | false => exact at_no w b m i j h (.inl (inR_no hr))
theorem of_flat (w : World) (b : Nat) (m : Mx) (j : Nat) (h : MxAt w b m) :
    Calls Try.prog 32 #[.pointer (some ⟨b, 0, none⟩), .int .u32 (j : Nat)] w fun e w' => ∃ a c, e = .returned (.tuple #[.int .i64 ((m.where j).getD 0 : Nat), .slice a (m.nodes j).length c, .bool (m.where j).isSome]) ∧ RdV w' (.slice a (m.nodes j).length c) ((m.nodes j).map iv) ∧ Below w.heap.size w w' := by
  cases hw : m.where j with
  | some r =>
    rw [Mx.nodes_of hw]
    refine (of_some w b m j r h hw).mono ?_
    rintro e w' ⟨v, he, ho, _, hb⟩
    obtain ⟨a, c, rfl, -, -⟩ := owns_slice ho
    exact ⟨a, c, he, RdV.of_own ho, hb⟩
  | none =>
    rw [nodes_of_none hw]
    refine (of_none w b m j h hw).mono ?_
    rintro e w' ⟨he, hb⟩
    exact ⟨none, 0, he, RdV.nil _, hb⟩

theorem rrow_flat (w : World) (lo : Nat) (G : Geo) (m : Mx) (row : Int) (h : RxAt w lo G m) (ho : One m) :
    Calls Try.prog 51 #[.pointer (some ⟨G.x, 0, none⟩), .int .i64 row] w (Told32 w (m.rowI row)) := by
  unfold Mx.rowI
  cases hr : m.inR row with
  | true =>
    obtain ⟨h1, h2⟩ := inR_yes hr
    have h3 := rrow_any w lo G m row.toNat h ho h2
    rw [← h1] at h3
    exact h3.mono fun e w' ⟨v, he, ho, hb⟩ => Told32.own he ho hb
  | false => exact (rrow_no w lo G m row h (inR_no hr)).mono fun e w' ⟨he, hb⟩ => Told32.nil he (by rw [← hb]; exact Below.refl _ _)
theorem rfill_flat (w : World) (lo : Nat) (G : Geo) (m : Mx) (row : Int) (h : RxAt w lo G m) (ho : One m) :
    Calls Try.prog 52 #[.pointer (some ⟨G.x, 0, none⟩), .int .i64 row] w (Told32 w (m.fillI row)) := by
  unfold Mx.fillI
  cases hr : m.inR row with
  | true =>
    obtain ⟨h1, h2⟩ := inR_yes hr
    have h3 := rfill_any w lo G m row.toNat h ho h2
    rw [← h1] at h3
    exact h3.mono fun e w' ⟨v, he, ho, hb⟩ => Told32.own he ho hb
  | false => exact (rfill_no w lo G m row h (inR_no hr)).mono fun e w' ⟨he, hb⟩ => Told32.nil he (by rw [← hb]; exact Below.refl _ _)
theorem rfree_flat (w : World) (lo : Nat) (G : Geo) (m : Mx) (row : Int) (h : RxAt w lo G m) :
    Calls Try.prog 39 #[.pointer (some ⟨G.x, 0, none⟩), .int .i64 row] w fun e w' => ∃ a c, e = .returned (.slice a (m.freeI row) c) ∧ Below w.heap.size w w' := by
  unfold Mx.freeI
  cases hr : m.inR row with
  | true =>
    obtain ⟨h1, h2⟩ := inR_yes hr
    have h3 := rfree_any w lo G m row.toNat h h2
    rw [← h1] at h3
    refine h3.mono ?_
    rintro e w' ⟨v, he, ho, hb⟩
    obtain ⟨a, c, rfl, -, -⟩ := owns_slice ho
    exact ⟨a, c, he, hb⟩
  | false => exact (rfree_no w lo G m row h (inR_no hr)).mono fun e w' ⟨he, hb⟩ => ⟨none, 0, he, by rw [← hb]; exact Below.refl _ _⟩
theorem rof_flat (w : World) (lo : Nat) (G : Geo) (m : Mx) (j : Nat) (h : RxAt w lo G m) :
    Calls Try.prog 38 #[.pointer (some ⟨G.x, 0, none⟩), .int .u32 (j : Nat)] w fun e w' => ∃ a c, e = .returned (.tuple #[.int .i64 ((m.where j).getD 0 : Nat), .slice a (m.nodes j).length c, .bool (m.where j).isSome]) ∧ RdV w' (.slice a (m.nodes j).length c) ((m.nodes j).map iv) ∧ Below w.heap.size w w' := by
  refine (rof_any w lo G m j h).mono ?_
  rintro e w' ⟨v, he, ho, hb⟩
  obtain ⟨a, c, rfl, -, -⟩ := owns_slice ho
  exact ⟨a, c, he, RdV.of_own ho, hb⟩
theorem jobs_flat (w : World) (b : Nat) (m : Mx) (h : MxAt w b m) :
    Calls Try.prog 45 #[.pointer (some ⟨b, 0, none⟩)] w (Told32 w m.jobs) := by
  refine (jobs_any w b m h).mono ?_
  rintro e w' ⟨v, he, ho, hb⟩
  exact Told32.own he ho hb
theorem rjobs_flat (w : World) (lo : Nat) (G : Geo) (m : Mx) (h : RxAt w lo G m) (ho : One m) :
    Calls Try.prog 48 #[.pointer (some ⟨G.x, 0, none⟩)] w (Told32 w m.jobs) := by
  refine (rjobs_any w lo G m h ho).mono ?_
  rintro e w' ⟨v, he, hr, hb⟩
  obtain ⟨a, c, rfl, -, -⟩ := hr.len
  rw [List.length_map] at hr he
  exact ⟨a, c, he, hr, hb⟩

/-- Numbers that may be below 0, in a row. -/
def iw' (x : Int) : Value := .int .i64 x
theorem infoIntA : (Try.prog.info? 3).map (fun i => (i.zero, i.size, i.bytes)) = some (some (.int .i64 0), 1, 8) := by kernel_rfl

set_option maxRecDepth 100000 in
set_option maxHeartbeats 4000000 in
theorem seq_any (w : World) (n : Nat) (hn : n ≤ 16) :
    Calls Try.prog 49 #[.int .i64 n] w fun e w' => ∃ v, e = .returned v ∧ w'.ownsRow w.heap.size 3 1 v n ((List.range n).map fun i => .int .i64 (i : Nat)) ∧ Below w.heap.size w w' := by
  go_enter Try.func49, Try.ntmps49
  go_wp2_with fail
  go_loopw [3, 6] (fun v q wr => ∃ k : Nat, q = .int .i64 k ∧ k ≤ n ∧ wr.ownsRow w.heap.size 3 1 v k ((List.range k).map fun i => .int .i64 (i : Nat)) ∧ Below w.heap.size w wr) (fun _ q _ => n - (intOf q).toNat)
  case atStart => exact ⟨0, rfl, Nat.zero_le _, World.ownsRow_nil _ _ _ _, Below.refl _ _⟩
  case round =>
    obtain ⟨k, rfl, hk, ho, hb⟩ := hrel
    have HO := hid ho
    have HB := hid hb
    have hsz := hb.size
    by_cases hkn : k < n
    · have hki : (k : Int) < (n : Int) := by omega
      have hof := hid (owns_below ho ((Below.refl _ _).alloc (Nat.le_refl _) (.cells #[.int .i64 (k : Nat)] 3)))
      have hsrc := hid (SrcC.lit wr #[.int .i64 (k : Nat)] 3 1 [.int .i64 (k : Nat)] rfl)
      clear ho hb
      go_wp2_with (first
        | (at_builtin; (refine appsw (by rfl) 34 3 (.tmp 9) (.tmp 11) rfl w.heap.size 1 8 _ Try.underlying34 infoIntA rfl (by decide) _ _ k 1 (k + 1) _ _ rfl rfl hof.out hsrc.out rfl (by intro y hy; rw [List.mem_singleton] at hy; subst hy; rfl) rfl (by omega) (by omega) (by simp; omega) ?_); intro adA cpA wA hoA hgA; have HOA := hid hoA; have HGA := hid hgA; clear hoA hgA)
        | fail)
      have hbA : Below w.heap.size w wA := (HB.out.alloc (by omega) (.cells #[.int .i64 (k : Nat)] 3)).grown HGA.out (by simp; omega) (fun q hq => (World.ownsRow.lt HO.out q hq).1)
      have HBA := hid hbA
      clear hbA
      go_roundw
      case rel => exact ⟨k + 1, by go_num, by omega, by rw [List.range_succ, List.map_append]; exact HOA.out, HBA.out⟩
      case measure => simp [intOf]; omega
    · have hki : ¬ (k : Int) < (n : Int) := by omega
      have e : k = n := by omega
      rw [e] at ho
      have HO2 := hid ho
      clear ho hb e
      go_wp2_with fail
      go_ret
      exact ⟨_, rfl, HO2.out, HB.out⟩

end Go.Proofs.Ytdongghjchnpbaa

namespace Go.Proofs.Ytdongghjchnpbaa
open Go.RowKit Go.Shelf
set_option linter.unusedVariables false
set_option linter.unusedSimpArgs false

theorem nextVal_flat (o : Option Nat) : nextVal o = .tuple #[.int .i64 (o.getD 0 : Nat), .bool o.isSome] := by cases o <;> rfl

theorem own_lit (w : World) (cs : Array Value) (t : TypeId) (n : Nat) (hn : n = cs.size) (hm : n ≤ 1000) : (w.alloc (.cells cs t)).ownsRow w.heap.size t 1 (.slice (some ⟨w.heap.size, 0, none⟩) n n) n cs.toList := by
  subst hn
  exact ⟨by simp, .inr ⟨w.heap.size, cs.size, cs, rfl, Nat.le_refl _, heap_alloc_new w _, Nat.le_refl _, by unfold maxLen; omega, by simp, by rw [Nat.mul_one]; exact List.take_of_length_le (by simp)⟩⟩

theorem atI_in {m : Mx} {i x : Nat} (hi : i < m.r) (hx : x < m.n) : m.atI i x = m.c (16 * i + x) := by
  unfold Mx.atI Mx.inR
  rw [if_pos (by simp; omega)]
  simp
theorem atI_out {m : Mx} {i j : Int} (h : i < 0 ∨ (m.r : Int) ≤ i ∨ j < 0 ∨ (m.n : Int) ≤ j) : m.atI i j = 0 := by
  unfold Mx.atI Mx.inR
  rw [if_neg (by simp; omega)]

theorem SrcC.of_rd {w : World} {a : Option Addr} {n c : Nat} {xs : List Value} (h : RdV w (.slice a n c) xs) : SrcC w (.slice a n c) n xs := by
  rcases h with ⟨e, h⟩ | ⟨b, off, cap', e, h1, h2, h3, h4⟩
  · simp only [Value.slice.injEq] at e
    obtain ⟨rfl, rfl, rfl⟩ := e
    subst h
    exact .inl ⟨rfl, rfl, rfl⟩
  · simp only [Value.slice.injEq] at e
    obtain ⟨rfl, rfl, rfl⟩ := e
    exact .inr ⟨_, _, rfl, fun j y hj => by rw [Addr.add_lit]; exact h4 j y hj⟩

def intsV (l : List Int) : List Value := l.map fun x => .int .i64 x

set_option maxRecDepth 100000 in
set_option maxHeartbeats 16000000 in
theorem alike_any (w : World) (b lo : Nat) (G : Geo) (m : Mx) (far : Int) (h : MxAt w b m) (hx : RxAt w lo G m) (ho : One m) :
    Calls Try.prog 23 #[.pointer (some ⟨b, 0, none⟩), .pointer (some ⟨G.x, 0, none⟩), .int .i64 far] w fun e w' => e = .returned (.bool true) ∧ Below w.heap.size w w' := by
  have hr8 := h.r8
  have hn16 := h.n16
  have HR1 := hid h.r1
  have HONE := hid ho
  have HMX := hid (fun W (hW : Below w.heap.size w W) => h.below hW h.lt)
  have HRX := hid (fun W (hW : Below w.heap.size w W) => hx.below hW (Nat.le_refl _))
  have HSZ := hid (size_any w b m h)
  clear h hx ho
  go_enter Try.func23, Try.ntmps23
  go_wp2_with fail
  refine HSZ.out.mono ?_
  rintro e w1 ⟨rfl, nd, hnd⟩
  have HB1 := hid (show Below w.heap.size w w1 by rw [hnd]; exact ⟨rfl, rfl, rfl, Nat.le_refl _, fun _ _ => rfl⟩)
  have hxr := HRX.out w1 HB1.out
  have hc0 := hxr.c0
  have hc1 := hxr.c1
  have hccr := hxr.ccr
  have hccm := hxr.ccm
  have hcur := hxr.cur
  have hcum := hxr.cum
  have HJ1 := hid (jobs_flat w1 b m (HMX.out w1 HB1.out))
  have HJ2 := hid (fun W (hW : Below w.heap.size w W) => rjobs_flat W lo G m (HRX.out W hW) HONE.out)
  have HJLL := hid (show m.jobs.length ≤ 128 by unfold Mx.jobs; rw [rising_len]; exact upTo_mono m hn16 m.r hr8)
  generalize m.jobs = JL at *
  clear hnd hxr
  go_upto_region 7 with (first
    | (go_at_call 45; (with_reducible refine HJ1.out.mono ?_); rintro e w4 ⟨a4, c4, rfl, hr4, hb4⟩; have HB4 := hid (HB1.out.trans (hb4.mono HB1.out.size)); have HR4 := hid hr4; have HD2 := hid (HJ2.out w4 HB4.out); clear hb4 hr4)
    | (go_at_call 48; (with_reducible refine HD2.out.mono ?_); rintro e w5 ⟨a5, c5, rfl, hr5, hb5⟩; have HB5 := hid (HB4.out.trans (hb5.mono HB4.out.size)); have HS1 := hid (same_any w5 _ _ JL JL (HR4.out.all hb5) hr5); rw [show decide (JL = JL) = true by simp] at HS1; clear hb5 hr5)
    | (go_at_call 30; (with_reducible refine HS1.out.mono ?_); rintro e w6 ⟨rfl, hb6⟩; have HB6 := hid (HB5.out.trans (hb6.mono HB5.out.size)); clear hb6)
    | fail)
  clear hc0 hc1 hccr hccm hcur hcum
  have HLR := hid (own_lit w6 #[.int .i64 (-1), .int .i64 (m.r : Nat), .int .i64 far] 3 3 rfl (by omega))
  have HLBR := hid ((Below.refl _ w6).alloc (Nat.le_refl _) (.cells #[.int .i64 (-1), .int .i64 (m.r : Nat), .int .i64 far] 3))
  have HSQR := hid (seq_any (w6.alloc (.cells #[.int .i64 (-1), .int .i64 (m.r : Nat), .int .i64 far] 3)) m.r (by omega))
  go_upto_region 8 with (first
    | (go_at_call 49; (with_reducible refine HSQR.out.mono ?_); rintro e wsR ⟨vs, rfl, hos, hbs⟩; have HOSR := hid hos; have HBSR := hid hbs; have HLSR := hid (owns_below HLR.out hbs); have hszsR := hbs.size; clear hos hbs)
    | (at_builtin; (refine appsw (by rfl) 34 3 (.tmp 114) (.tmp 116) rfl w6.heap.size 1 8 _ Try.underlying34 infoIntA rfl (by decide) _ _ 3 m.r (m.r + 3) _ _ rfl rfl HLSR.out (SrcC.of_own HOSR.out) (by simp) (by intro y hy; obtain ⟨z, _, rfl⟩ := List.mem_map.1 hy; rfl) (by omega) (by omega) (by omega) (by have := HBSR.out.size; have := HLBR.out.size; omega) ?_); intro adA cpA wLR hoA hgA; have HOA := hid hoA; have HGA := hid hgA; clear hoA hgA)
    | fail)
  have HBLR := hid (show Below w6.heap.size w6 wLR from ((HLBR.out.trans (HBSR.out.mono HLBR.out.size))).grown HGA.out (by have := HBSR.out.size; have := HLBR.out.size; omega) (fun q hq => (World.ownsRow.lt HLSR.out q hq).1))
  obtain ⟨AR, hAR⟩ : ∃ A : List Int, A = ([-1, ((m.r : Nat) : Int), far] : List Int) ++ (List.range m.r).map Int.ofNat := ⟨_, rfl⟩
  have hALR : AR.length = m.r + 3 := by rw [hAR]; simp
  have HRDR := hid (show RdV wLR (.slice adA (m.r + 3) cpA) (intsV AR) from by
    have h1 := RdV.of_own HOA.out
    rw [hAR]
    unfold intsV
    rw [List.map_append, List.map_map]
    exact h1)
  obtain ⟨NAR, hNAR⟩ : ∃ n, n = m.r + 3 := ⟨_, rfl⟩
  rw [show (((m.r : Nat) : Int) + 3) = (NAR : Int) by omega, ← hNAR] at ⊢
  rw [← hNAR] at HRDR hALR
  have HALR := hid hALR
  have hNAbR : NAR ≤ 19 := by omega
  clear hAR hALR hNAR
  go_loopw [119] (fun q wr => ∃ k : Nat, q = .int .i64 k ∧ k ≤ NAR ∧ Below wLR.heap.size wLR wr) (fun q _ => NAR - (intOf q).toNat)
  case atStart => exact ⟨0, rfl, Nat.zero_le _, Below.refl _ _⟩
  case round =>
    obtain ⟨k, rfl, hk, hb⟩ := hrel
    have HB := hid hb
    have HW := hid (HB6.out.trans ((HBLR.out.trans (hb.mono HBLR.out.size)).mono HB6.out.size))
    by_cases hkn : k < NAR
    · have hki : (k : Int) < (NAR : Int) := by omega
      obtain ⟨row, hrow⟩ : ∃ x, AR[k]? = some x := ⟨_, List.getElem?_eq_getElem (by have := HALR.out; omega)⟩
      obtain ⟨-, g1, o1, rfl, hg1, hcell1⟩ := RdV.at1 (HRDR.out.all hb) k (.int .i64 row) (by unfold intsV; rw [List.getElem?_map, hrow]; rfl)
      have HN1 := hid (next_any wr b m row (HMX.out wr HW.out))
      rw [nextVal_flat] at HN1
      obtain ⟨NX, hNX⟩ : ∃ n, n = (m.next row).getD 0 := ⟨_, rfl⟩
      obtain ⟨BX, hBX⟩ : ∃ n, n = (m.next row).isSome := ⟨_, rfl⟩
      rw [← hNX, ← hBX] at HN1
      have HN2 := hid (fun W (hW : Below w.heap.size w W) => show Calls Try.prog 50 #[.pointer (some ⟨G.x, 0, none⟩), .int .i64 row] W fun e w' => e = .returned (.tuple #[.int .i64 (NX : Nat), .bool BX]) ∧ Below W.heap.size W w' from by
        rw [hNX, hBX, ← nextVal_flat]
        exact rnext_any W lo G row m (HRX.out W hW) HONE.out HR1.out)
      clear hb hrow hNX hBX
      go_upto_region 11 with (first
        | (go_at_call 33; (with_reducible refine HN1.out.mono ?_); rintro e w2 ⟨rfl, hb2⟩; have HB2 := hid (HW.out.trans (hb2.mono HW.out.size)); have HBR2 := hid (HB.out.trans (hb2.mono HB.out.size)); have HN3 := hid (HN2.out w2 HB2.out); clear hb2)
        | fail)
      go_upto_region 12 with (first
        | (go_at_call 50; (with_reducible refine HN3.out.mono ?_); rintro e w3 ⟨rfl, hb3⟩; have HB3 := hid (HB2.out.trans (hb3.mono HB2.out.size)); have HBR3 := hid (HBR2.out.trans (hb3.mono HBR2.out.size)); clear hb3)
        | fail)
      have HC1 := hid (row_flat w3 b m row (HMX.out w3 HB3.out))
      have HC2 := hid (fun W (hW : Below w.heap.size w W) => rrow_flat W lo G m row (HRX.out W hW) HONE.out)
      have HC3 := hid (fun W (hW : Below w.heap.size w W) => fill_flat W b m row (HMX.out W hW))
      have HC4 := hid (fun W (hW : Below w.heap.size w W) => rfill_flat W lo G m row (HRX.out W hW) HONE.out)
      have HC5 := hid (fun W (hW : Below w.heap.size w W) => free_flat W b m row (HMX.out W hW))
      have HC6 := hid (fun W (hW : Below w.heap.size w W) => rfree_flat W lo G m row (HRX.out W hW))
      generalize m.rowI row = RI at *
      generalize m.fillI row = FI at *
      generalize m.freeI row = FR at *
      have hnn : ((NX : Int) != (NX : Int)) = false := by simp
      have hbb : (BX != BX) = false := by simp
      have hff : ((FR : Int) != (FR : Int)) = false := by simp
      go_upto_region 14 with (first
        | (go_at_call 47; (with_reducible refine HC1.out.mono ?_); rintro e w4 ⟨a4, c4, rfl, hr4, hb4⟩; have HB4 := hid (HB3.out.trans (hb4.mono HB3.out.size)); have HBR4 := hid (HBR3.out.trans (hb4.mono HBR3.out.size)); have HR4 := hid hr4; have HD2 := hid (HC2.out w4 HB4.out); clear hb4 hr4)
        | (go_at_call 51; (with_reducible refine HD2.out.mono ?_); rintro e w5 ⟨a5, c5, rfl, hr5, hb5⟩; have HB5 := hid (HB4.out.trans (hb5.mono HB4.out.size)); have HBR5 := hid (HBR4.out.trans (hb5.mono HBR4.out.size)); have HS1 := hid (same_any w5 _ _ RI RI (HR4.out.all hb5) hr5); rw [show decide (RI = RI) = true by simp] at HS1; clear hb5 hr5)
        | (go_at_call 30; (with_reducible refine HS1.out.mono ?_); rintro e w6 ⟨rfl, hb6⟩; have HB6' := hid (HB5.out.trans (hb6.mono HB5.out.size)); have HBR6 := hid (HBR5.out.trans (hb6.mono HBR5.out.size)); have HD3 := hid (HC3.out w6 HB6'.out); clear hb6)
        | (go_at_call 34; (with_reducible refine HD3.out.mono ?_); rintro e w7 ⟨a7, c7, rfl, hr7, hb7⟩; have HB7 := hid (HB6'.out.trans (hb7.mono HB6'.out.size)); have HBR7 := hid (HBR6.out.trans (hb7.mono HBR6.out.size)); have HR7 := hid hr7; have HD4 := hid (HC4.out w7 HB7.out); clear hb7 hr7)
        | (go_at_call 52; (with_reducible refine HD4.out.mono ?_); rintro e w8 ⟨a8, c8, rfl, hr8, hb8⟩; have HB8 := hid (HB7.out.trans (hb8.mono HB7.out.size)); have HBR8 := hid (HBR7.out.trans (hb8.mono HBR7.out.size)); have HS2 := hid (same_any w8 _ _ FI FI (HR7.out.all hb8) hr8); rw [show decide (FI = FI) = true by simp] at HS2; clear hb8 hr8)
        | (go_at_call 30; (with_reducible refine HS2.out.mono ?_); rintro e w9 ⟨rfl, hb9⟩; have HB9 := hid (HB8.out.trans (hb9.mono HB8.out.size)); have HBR9 := hid (HBR8.out.trans (hb9.mono HBR8.out.size)); have HD5 := hid (HC5.out w9 HB9.out); clear hb9)
        | (go_at_call 31; (with_reducible refine HD5.out.mono ?_); rintro e w10 ⟨rfl, hb10⟩; have HB10 := hid (HB9.out.trans (hb10.mono HB9.out.size)); have HBR10 := hid (HBR9.out.trans (hb10.mono HBR9.out.size)); have HD6 := hid (HC6.out w10 HB10.out); clear hb10)
        | (go_at_call 39; (with_reducible refine HD6.out.mono ?_); rintro e w11 ⟨a11, c11, rfl, hb11⟩; have HB11 := hid (HB10.out.trans (hb11.mono HB10.out.size)); have HBR11 := hid (HBR10.out.trans (hb11.mono HBR10.out.size)); clear hb11)
        | fail)
      have HLN := hid (own_lit w11 #[.int .i64 (-1), .int .i64 (m.n : Nat), .int .i64 far] 3 3 rfl (by omega))
      have HLBN := hid ((Below.refl _ w11).alloc (Nat.le_refl _) (.cells #[.int .i64 (-1), .int .i64 (m.n : Nat), .int .i64 far] 3))
      have HSQN := hid (seq_any (w11.alloc (.cells #[.int .i64 (-1), .int .i64 (m.n : Nat), .int .i64 far] 3)) m.n hn16)
      go_upto_region 15 with (first
        | (go_at_call 49; (with_reducible refine HSQN.out.mono ?_); rintro e wsN ⟨vs, rfl, hos, hbs⟩; have HOSN := hid hos; have HBSN := hid hbs; have HLSN := hid (owns_below HLN.out hbs); have hszsN := hbs.size; clear hos hbs)
        | (at_builtin; (refine appsw (by rfl) 34 3 (.tmp 175) (.tmp 177) rfl w11.heap.size 1 8 _ Try.underlying34 infoIntA rfl (by decide) _ _ 3 m.n (m.n + 3) _ _ rfl rfl HLSN.out (SrcC.of_own HOSN.out) (by simp) (by intro y hy; obtain ⟨z, _, rfl⟩ := List.mem_map.1 hy; rfl) (by omega) (by omega) (by omega) (by have := HBSN.out.size; have := HLBN.out.size; omega) ?_); intro adA cpA wLN hoA hgA; have HOA := hid hoA; have HGA := hid hgA; clear hoA hgA)
        | fail)
      have HBLN := hid (show Below w11.heap.size w11 wLN from ((HLBN.out.trans (HBSN.out.mono HLBN.out.size))).grown HGA.out (by have := HBSN.out.size; have := HLBN.out.size; omega) (fun q hq => (World.ownsRow.lt HLSN.out q hq).1))
      obtain ⟨AN, hAN⟩ : ∃ A : List Int, A = ([-1, ((m.n : Nat) : Int), far] : List Int) ++ (List.range m.n).map Int.ofNat := ⟨_, rfl⟩
      have hALN : AN.length = m.n + 3 := by rw [hAN]; simp
      have HRDN := hid (show RdV wLN (.slice adA (m.n + 3) cpA) (intsV AN) from by
        have h1 := RdV.of_own HOA.out
        rw [hAN]
        unfold intsV
        rw [List.map_append, List.map_map]
        exact h1)
      obtain ⟨NAN, hNAN⟩ : ∃ n, n = m.n + 3 := ⟨_, rfl⟩
      rw [show (((m.n : Nat) : Int) + 3) = (NAN : Int) by omega, ← hNAN] at ⊢
      rw [← hNAN] at HRDN hALN
      have HALN := hid hALN
      have hNAbN : NAN ≤ 19 := by omega
      clear hAN hALN hNAN
      go_loopw [180] (fun q wr => ∃ k2 : Nat, q = .int .i64 k2 ∧ k2 ≤ NAN ∧ Below wLN.heap.size wLN wr) (fun q _ => NAN - (intOf q).toNat)
      case atStart => exact ⟨0, rfl, Nat.zero_le _, Below.refl _ _⟩
      case round =>
        obtain ⟨k2, rfl, hk2, hb2⟩ := hrel
        have HB2 := hid hb2
        have HW2 := hid (HB11.out.trans ((HBLN.out.trans (hb2.mono HBLN.out.size)).mono HB11.out.size))
        by_cases hk2n : k2 < NAN
        · have hk2i : (k2 : Int) < (NAN : Int) := by omega
          obtain ⟨node, hnode⟩ : ∃ x, AN[k2]? = some x := ⟨_, List.getElem?_eq_getElem (by have := HALN.out; omega)⟩
          obtain ⟨-, g2, o2, rfl, hg2, hcell2⟩ := RdV.at1 (HRDN.out.all hb2) k2 (.int .i64 node) (by unfold intsV; rw [List.getElem?_map, hnode]; rfl)
          have HAT := hid (at_flat wr b m row node (HMX.out wr HW2.out))
          have hxr := HRX.out wr HW2.out
          by_cases hall : (0 ≤ row ∧ row < m.r) ∧ (0 ≤ node ∧ node < m.n)
          · obtain ⟨⟨h1, h2⟩, h3, h4⟩ := hall
            obtain ⟨i, rfl⟩ := Int.eq_ofNat_of_zero_le h1
            obtain ⟨x, rfl⟩ := Int.eq_ofNat_of_zero_le h3
            have hi : i < m.r := by omega
            have hx : x < m.n := by omega
            rw [atI_in hi hx] at HAT
            have hc0 := hxr.c0
            have hrw := hxr.row i hi
            obtain ⟨hcp1, hcp2⟩ := hxr.cpn i hi
            have hccr := hxr.ccr
            have hccm := hxr.ccm
            have hcl := hxr.cell i x hi hx
            have hri : (m.r : Int) ≤ 8 := by omega
            have hni : (m.n : Int) ≤ 16 := by omega
            generalize m.c (16 * i + x) = cv at *
            have hne : ((cv : Int) != (cv : Int)) = false := by simp
            clear hb2 hnode hxr hk2n
            go_wp2_with (first
              | (go_at_call 46; (with_reducible refine HAT.out.mono ?_); rintro e w2 ⟨rfl, rfl⟩)
              | fail)
            go_roundw
            case rel => exact ⟨k2 + 1, by go_num, by omega, HB2.out⟩
            case measure => simp [intOf]; omega
          · rw [atI_out (by omega)] at HAT
            have hc4 : row < 0 ∨ (¬ row < 0 ∧ (m.r : Int) ≤ row) ∨ (¬ row < 0 ∧ ¬ (m.r : Int) ≤ row ∧ node < 0) ∨ (¬ row < 0 ∧ ¬ (m.r : Int) ≤ row ∧ ¬ node < 0 ∧ (m.n : Int) ≤ node) := by omega
            clear hb2 hnode hxr hk2n hall
            rcases hc4 with h1 | ⟨h1, h2⟩ | ⟨h1, h2, h3⟩ | ⟨h1, h2, h3, h4⟩
            · have d1 : ¬ row ≥ 0 := by omega
              go_wp2_with (first
                | (go_at_call 46; (with_reducible refine HAT.out.mono ?_); rintro e w2 ⟨rfl, rfl⟩)
                | fail)
              go_roundw
              case rel => exact ⟨k2 + 1, by go_num, by omega, HB2.out⟩
              case measure => simp [intOf]; omega
            · have d1 : row ≥ 0 := by omega
              have d2 : ¬ row < (m.r : Int) := by omega
              go_wp2_with (first
                | (go_at_call 46; (with_reducible refine HAT.out.mono ?_); rintro e w2 ⟨rfl, rfl⟩)
                | fail)
              go_roundw
              case rel => exact ⟨k2 + 1, by go_num, by omega, HB2.out⟩
              case measure => simp [intOf]; omega
            · have d1 : row ≥ 0 := by omega
              have d2 : row < (m.r : Int) := by omega
              have d3 : ¬ node ≥ 0 := by omega
              go_wp2_with (first
                | (go_at_call 46; (with_reducible refine HAT.out.mono ?_); rintro e w2 ⟨rfl, rfl⟩)
                | fail)
              go_roundw
              case rel => exact ⟨k2 + 1, by go_num, by omega, HB2.out⟩
              case measure => simp [intOf]; omega
            · have d1 : row ≥ 0 := by omega
              have d2 : row < (m.r : Int) := by omega
              have d3 : node ≥ 0 := by omega
              have d4 : ¬ node < (m.n : Int) := by omega
              go_wp2_with (first
                | (go_at_call 46; (with_reducible refine HAT.out.mono ?_); rintro e w2 ⟨rfl, rfl⟩)
                | fail)
              go_roundw
              case rel => exact ⟨k2 + 1, by go_num, by omega, HB2.out⟩
              case measure => simp [intOf]; omega
        · have hk2i : ¬ (k2 : Int) < (NAN : Int) := by omega
          have HW3 := hid (show Below wLR.heap.size wLR wr from HBR11.out.trans ((HBLN.out.trans (hb2.mono HBLN.out.size)).mono HBR11.out.size))
          clear hb2
          go_wp2_with fail
          go_roundw
          case rel => exact ⟨k + 1, by go_num, by omega, HW3.out⟩
          case measure => simp [intOf]; omega
    · have hki : ¬ (k : Int) < (NAR : Int) := by omega
      clear hb
      have HLJ := hid (own_lit wr #[.int .u32 0, .int .u32 77] 33 2 rfl (by omega))
      have HBJ0 := hid ((Below.refl _ wr).alloc (Nat.le_refl _) (.cells #[.int .u32 0, .int .u32 77] 33))
      have HJ3 := hid (HJ2.out (wr.alloc (.cells #[.int .u32 0, .int .u32 77] 33)) (HW.out.alloc HW.out.size _))
      have hjl := HJLL.out
      go_upto_region 25 with (first
        | (go_at_call 48; (with_reducible refine HJ3.out.mono ?_); rintro e wj ⟨aj, cj, rfl, hrj, hbj⟩; have HRJ := hid hrj; have HBJ := hid (HBJ0.out.trans (hbj.mono HBJ0.out.size)); have HLJ2 := hid (owns_below HLJ.out hbj); clear hbj hrj)
        | (at_builtin; (refine appsw (by rfl) 60 33 (.tmp 218) (.tmp 220) rfl wr.heap.size 1 4 _ Try.underlying60 info32J rfl (by decide) _ _ 2 JL.length (JL.length + 2) _ _ rfl rfl HLJ2.out (SrcC.of_rd HRJ.out) (by simp) (by intro y hy; obtain ⟨z, _, rfl⟩ := List.mem_map.1 hy; rfl) (by omega) (by omega) (by omega) (by have := HBJ.out.size; omega) ?_); intro adA cpA wK hoA hgA; have HOA := hid hoA; have HGA := hid hgA; clear hoA hgA)
        | fail)
      have HBK := hid (show Below wr.heap.size wr wK from HBJ.out.grown HGA.out (by have := HBJ.out.size; omega) (fun q hq => (World.ownsRow.lt HLJ2.out q hq).1))
      have HRK := hid (show RdV wK (.slice adA (JL.length + 2) cpA) ((0 :: 77 :: JL).map uv) from RdV.of_own HOA.out)
      have HWK := hid (HW.out.trans (HBK.out.mono HW.out.size))
      obtain ⟨NK, hNK⟩ : ∃ n, n = JL.length + 2 := ⟨_, rfl⟩
      rw [show (((JL.length : Nat) : Int) + 2) = (NK : Int) by omega, ← hNK] at ⊢
      rw [← hNK] at HRK
      have hNKb : NK ≤ 130 := by omega
      have HNK := hid hNK
      clear hNK
      go_loopw [223] (fun q wr => ∃ k3 : Nat, q = .int .i64 k3 ∧ k3 ≤ NK ∧ Below wK.heap.size wK wr) (fun q _ => NK - (intOf q).toNat)
      case atStart => exact ⟨0, rfl, Nat.zero_le _, Below.refl _ _⟩
      case round =>
        obtain ⟨k3, rfl, hk3, hb3⟩ := hrel
        have HB3 := hid hb3
        have HW3 := hid (HWK.out.trans (hb3.mono HWK.out.size))
        by_cases hk3n : k3 < NK
        · have hk3i : (k3 : Int) < (NK : Int) := by omega
          obtain ⟨j, hj⟩ : ∃ j, (0 :: 77 :: JL)[k3]? = some j := ⟨_, List.getElem?_eq_getElem (by have := HNK.out; simp; omega)⟩
          obtain ⟨-, g3, o3, rfl, hg3, hcell3⟩ := RdV.at1 (HRK.out.all hb3) k3 (uv j) (by rw [List.getElem?_map, hj]; rfl)
          have hc3 : wr.cell? ⟨g3, o3 + k3, none⟩ = some (.int .u32 (j : Nat)) := hcell3
          have HO1 := hid (of_flat wr b m j (HMX.out wr HW3.out))
          have HO2 := hid (fun W (hW : Below w.heap.size w W) => rof_flat W lo G m j (HRX.out W hW))
          generalize (m.where j).getD 0 = RD at *
          generalize (m.where j).isSome = IS at *
          generalize m.nodes j = NL at *
          have hrd : ((RD : Int) != (RD : Int)) = false := by simp
          have his : (IS != IS) = false := by simp
          clear hb3 hj hcell3
          go_upto_region 28 with (first
            | (go_at_call 32; (with_reducible refine HO1.out.mono ?_); rintro e w2 ⟨a2, c2, rfl, hr2, hb2⟩; have HB2 := hid (HW3.out.trans (hb2.mono HW3.out.size)); have HBK2 := hid (HB3.out.trans (hb2.mono HB3.out.size)); have HR2 := hid hr2; have HO3 := hid (HO2.out w2 HB2.out); clear hb2 hr2)
            | fail)
          go_upto_region 29 with (first
            | (go_at_call 38; (with_reducible refine HO3.out.mono ?_); rintro e w3 ⟨a3, c3, rfl, hr3, hb3⟩; have HBK3 := hid (HBK2.out.trans (hb3.mono HBK2.out.size)); have HS1 := hid (sameints_any w3 _ _ NL NL (HR2.out.all hb3) hr3); rw [show decide (NL = NL) = true by simp] at HS1; clear hb3 hr3)
            | fail)
          go_wp2_with (first
            | (go_at_call 16; (with_reducible refine HS1.out.mono ?_); rintro e w4 ⟨rfl, hb4⟩; have HBK4 := hid (HBK3.out.trans (hb4.mono HBK3.out.size)); clear hb4)
            | fail)
          go_roundw
          case rel => exact ⟨k3 + 1, by go_num, by omega, HBK4.out⟩
          case measure => simp [intOf]; omega
        · have hk3i : ¬ (k3 : Int) < (NK : Int) := by omega
          clear hb3
          go_wp2_with fail
          go_ret
          exact ⟨rfl, HW3.out⟩

end Go.Proofs.Ytdongghjchnpbaa

namespace Go.Proofs.Ytdongghjchnpbaa
open Go.RowKit Go.Shelf
set_option linter.unusedVariables false
set_option linter.unusedSimpArgs false

theorem free_nil (w : World) (row : Int) :
    Calls Try.prog 31 #[.pointer none, .int .i64 row] w fun e w' => e = .returned (.int .i64 0) ∧ w = w' := by
  refine (callsIn_wide (n := 5)).1 ?_
  refine callsIn_of_wp_marks Try.func31 rfl trivial ?_ rfl
  simp only [Try.ntmps31, List.size_toArray, List.length_cons, List.length_nil, Nat.reduceAdd, Nat.reduceSub, Array.replicate_succ, Array.replicate_zero, List.push_toArray, List.append_toArray, List.nil_append, List.cons_append]
  gi_wp2_with fail
  refine ⟨trivial, (callsIn_wide.2 (hasrow_nil w row)).mono ?_⟩
  rintro e w' ⟨rfl, rfl⟩
  gi_wp2
  exact ⟨_, results_tmp rfl _ _ _, rfl, rfl⟩

theorem jobs_nil (w : World) :
    Calls Try.prog 45 #[.pointer none] w fun e w' => e = .returned (.slice none 0 0) ∧ w = w' := by
  go_enter Try.func45, Try.ntmps45
  go_wp2_with fail
  go_ret
  exact ⟨rfl, rfl⟩

set_option maxRecDepth 100000 in
set_option maxHeartbeats 8000000 in
theorem alike_nil (w : World) (far : Int) :
    Calls Try.prog 23 #[.pointer none, .pointer none, .int .i64 far] w fun e w' => e = .returned (.bool true) ∧ Below w.heap.size w w' := by
  go_enter Try.func23, Try.ntmps23
  have HRW := hid (row_nil w 0)
  go_wp2_with (first
    | (go_at_call 44; (with_reducible refine (size_nil _).mono ?_); rintro e w' ⟨rfl, rfl⟩)
    | (go_at_call 33; (with_reducible refine (next_nil _ _).mono ?_); rintro e w' ⟨rfl, rfl⟩)
    | (go_at_call 45; (with_reducible refine (jobs_nil _).mono ?_); rintro e w' ⟨rfl, rfl⟩)
    | (go_at_call 12; (with_reducible refine (copy_nil _).mono ?_); rintro e w' ⟨rfl, rfl⟩)
    | (go_at_call 46; (with_reducible refine (at_nil _ _ _).mono ?_); rintro e w' ⟨rfl, rfl⟩)
    | (go_at_call 47; (with_reducible refine HRW.out.mono ?_); rintro e w2 ⟨rfl, hb2⟩; have HB2 := hid hb2; clear hb2)
    | (go_at_call 34; (with_reducible refine (fill_nil _ _).mono ?_); rintro e w' ⟨rfl, rfl⟩)
    | (go_at_call 31; (with_reducible refine (free_nil _ _).mono ?_); rintro e w' ⟨rfl, rfl⟩)
    | (go_at_call 22; (with_reducible refine (isup_nil _ _).mono ?_); rintro e w' ⟨rfl, rfl⟩)
    | fail)
  go_ret
  exact ⟨rfl, HB2.out⟩

end Go.Proofs.Ytdongghjchnpbaa

namespace Go.Proofs.Ytdongghjchnpbaa
open Go.RowKit Go.ChangeShapes Go.Deep
set_option linter.unusedVariables false
set_option linter.unusedSimpArgs false

/-- What the walk is told of a slice of Ops that came in: for each what is done, the job, the number, the nodes, on or off. -/
def IsOps12 (w : World) (a : Option Addr) (len cap : Nat) : Prop :=
  (a = none ∧ len = 0 ∧ cap = 0) ∨
  ∃ x, a = some x ∧ len ≤ cap ∧ cap ≤ maxLen ∧ ∀ r, r < len → ∃ (d j : Nat) (k : Int) (A : Option Addr) (L C : Nat) (zs : List Int) (on : Bool),
    w.cell? (x.add (r * 5)) = some (.int .u8 (d : Int)) ∧ w.cell? (x.add (r * 5 + 1)) = some (.int .u32 (j : Int)) ∧ w.cell? (x.add (r * 5 + 2)) = some (.int .i64 k) ∧ w.cell? (x.add (r * 5 + 3)) = some (.slice A L C) ∧ w.cell? (x.add (r * 5 + 4)) = some (.bool on) ∧ d < 256 ∧ j < 4294967296 ∧ (-9223372036854775808 ≤ k ∧ k ≤ 9223372036854775807) ∧ IsRow .i64 w A L C zs

set_option maxRecDepth 100000 in
set_option maxHeartbeats 2000000 in
theorem isOps12_of {H : Type} {enc : TypeId × Value → H} {w : World} {base : Nat} {held : Bool} {a : Option Addr} {len cap : Nat} {d : DataW H} {p : List MemPlace}
    (h : DataW.Trod enc Try.prog w base (fun _ => true) held 22 (.slice a len cap) d p) : IsOps12 w a len cap := by
  obtain ⟨fuel, hf⟩ := h
  rcases open_slice Try.underlying22 hf with ⟨hcs, _⟩ | ⟨x, l, c, m, n, D, Pl, hcs, _, hl, hm, hmm, _, hi⟩
  · simp [Value.cells] at hcs
    obtain ⟨rfl, rfl, rfl⟩ := hcs
    exact .inl ⟨rfl, rfl, rfl⟩
  · simp [Value.cells] at hcs
    obtain ⟨rfl, rfl, rfl⟩ := hcs
    refine .inr ⟨x, rfl, hl, hm, fun r hr => ?_⟩
    have h3 : Try.prog.cellsOf 36 = 5 := by kernel_rfl
    have h_uint8 : Try.prog.cellsOf 5 = 1 := by kernel_rfl
    have h_uint32 : Try.prog.cellsOf 33 = 1 := by kernel_rfl
    have h_int : Try.prog.cellsOf 3 = 1 := by kernel_rfl
    have h_bool : Try.prog.cellsOf 4 = 1 := by kernel_rfl
    have h_ints : Try.prog.cellsOf 34 = 1 := by kernel_rfl
    simp only [if_true] at hmm
    obtain ⟨cs', hc, ht'⟩ := hi r (by omega)
    rw [h3] at hc
    obtain ⟨_, hcl, hat⟩ := World.cells?_some hc
    obtain ⟨xs, n', _, _, _, hxl, hfld⟩ := DataW.trod_struct Try.underlying36 ht'
    have f0 : DataW.trod enc Try.prog w base (fun _ => true) held n' 5 ((cs'.drop 0).take (Try.prog.cellsOf 5)) = xs[0]? := hfld 0 _ rfl
    have f1 : DataW.trod enc Try.prog w base (fun _ => true) held n' 33 ((cs'.drop 1).take (Try.prog.cellsOf 33)) = xs[1]? := hfld 1 _ rfl
    have f2 : DataW.trod enc Try.prog w base (fun _ => true) held n' 3 ((cs'.drop 2).take (Try.prog.cellsOf 3)) = xs[2]? := hfld 2 _ rfl
    have f3 : DataW.trod enc Try.prog w base (fun _ => true) held n' 34 ((cs'.drop 3).take (Try.prog.cellsOf 34)) = xs[3]? := hfld 3 _ rfl
    have f4 : DataW.trod enc Try.prog w base (fun _ => true) held n' 4 ((cs'.drop 4).take (Try.prog.cellsOf 4)) = xs[4]? := hfld 4 _ rfl
    rw [h_uint8] at f0
    rw [h_uint32] at f1
    rw [h_int] at f2
    rw [h_ints] at f3
    rw [h_bool] at f4
    match cs', hcl with
    | [c0, c1, c2, c3, c4], _ =>
      match xs, hxl with
      | [y0, y1, y2, y3, y4], _ =>
        obtain ⟨d0, e0, _, wf0⟩ := DataW.trod_int Try.underlying5 (show _ = some y0 from f0)
        simp at e0
        subst e0
        have b0 := bounds_u8 wf0
        obtain ⟨n0, rfl⟩ := Int.eq_ofNat_of_zero_le (show 0 ≤ d0 by omega)
        obtain ⟨d1, e1, _, wf1⟩ := DataW.trod_int Try.underlying33 (show _ = some y1 from f1)
        simp at e1
        subst e1
        have b1 := bounds_u32 wf1
        obtain ⟨n1, rfl⟩ := Int.eq_ofNat_of_zero_le (show 0 ≤ d1 by omega)
        obtain ⟨d2, e2, _, wf2⟩ := DataW.trod_int Try.underlying3 (show _ = some y2 from f2)
        simp at e2
        subst e2
        have b2 := bounds_i64 wf2
        obtain ⟨d4, e4, _⟩ := DataW.trod_bool Try.underlying4 (show _ = some y4 from f4)
        simp at e4
        subst e4
        have k0 := hat 0 (by omega)
        have k1 := hat 1 (by omega)
        have k2 := hat 2 (by omega)
        have k3 := hat 3 (by omega)
        have k4 := hat 4 (by omega)
        rw [add_add] at k0 k1 k2 k3 k4
        rcases open_ints Try.underlying34 Try.underlying3 h_int (show _ = some y3 from f3) with ⟨eA, _⟩ | ⟨xA, lA, cpA, zzA, eA, _, hlA, hmA, hzA, _, hcellA, hwzA⟩
        · simp at eA
          subst eA
          exact ⟨n0, n1, d2, none, 0, 0, [], d4, by simpa using k0, by simpa using k1, by simpa using k2, by simpa using k3, by simpa using k4, by omega, by omega, by omega, .inl ⟨rfl, rfl, rfl, rfl⟩⟩
        · simp at eA
          subst eA
          exact ⟨n0, n1, d2, some xA, lA, cpA, zzA, d4, by simpa using k0, by simpa using k1, by simpa using k2, by simpa using k3, by simpa using k4, by omega, by omega, by omega, .inr ⟨xA, rfl, hlA, hmA, by simpa using hzA, hcellA, hwzA⟩⟩

theorem IsOps12.bounds {w : World} {a : Option Addr} {len cap : Nat} (h : IsOps12 w a len cap) : len ≤ cap ∧ cap ≤ 9223372036854775807 := by
  rcases h with ⟨rfl, rfl, rfl⟩ | ⟨x, rfl, h1, h2, _⟩
  · exact ⟨Nat.le_refl _, by omega⟩
  · unfold maxLen at h2
    exact ⟨h1, by omega⟩

/-- The first numbers of a row that came in, as an append reads them. -/
theorem IsRow.srcN {w : World} {a : Option Addr} {len cap : Nat} {zs : List Int} (h : IsRow .i64 w a len cap zs) (k : Nat) (hk : k ≤ len) : (zs.take k).length = k ∧ SrcC w (.slice a k cap) k ((zs.take k).map fun x => Value.int .i64 x) := by
  rcases h with ⟨rfl, rfl, rfl, rfl⟩ | ⟨x, rfl, h1, h2, h3, h4, h5⟩
  · obtain rfl : k = 0 := by omega
    exact ⟨rfl, .inl ⟨rfl, rfl, rfl⟩⟩
  · have hl : (zs.take k).length = k := by rw [List.length_take]; omega
    refine ⟨hl, .inr ⟨x, cap, rfl, fun j y hj => ?_⟩⟩
    rw [List.getElem?_map, List.getElem?_take] at hj
    by_cases hjk : j < k
    · rw [if_pos hjk, List.getElem?_eq_getElem (by omega)] at hj
      simp only [Option.map_some, Option.some.injEq] at hj
      subst hj
      rw [h4 j (by omega)]
      simp [List.getElem?_eq_getElem (show j < zs.length by omega)]
    · rw [if_neg hjk] at hj
      simp at hj

/-- The first nodes of an op, as the law takes them. -/
structure Cut12 (w : World) (A : Option Addr) (L C : Nat) (t : List Int) : Prop where
  len : t.length ≤ 20
  min : (if (20 : Int) < (L : Int) then (20 : Int) else (L : Int)) = (t.length : Int)
  l1 : (t.length : Int) ≤ (L : Int)
  l2 : (L : Int) ≤ (C : Int)
  l3 : (t.length : Int) ≤ (C : Int)
  l4 : C ≤ 9223372036854775807
  src : SrcC w (.slice A t.length C) t.length (t.map fun x => Value.int .i64 x)

theorem Cut12.below {w w' : World} {A : Option Addr} {L C : Nat} {t : List Int} (h : Cut12 w A L C t) (hb : Below w.heap.size w w') : Cut12 w' A L C t :=
  ⟨h.len, h.min, h.l1, h.l2, h.l3, h.l4, h.src.to fun a ha => hb.cell ha⟩

theorem cut12_of {w : World} {A : Option Addr} {L C : Nat} {zs : List Int} (h : IsRow .i64 w A L C zs) : ∃ t, Cut12 w A L C t := by
  obtain ⟨hl, hrd⟩ := h.srcN (Nat.min L 20) (Nat.min_le_left _ _)
  have hbd := h.bounds
  have hm : Nat.min L 20 = if 20 < L then 20 else L := by
    show min L 20 = _
    split <;> omega
  refine ⟨zs.take (Nat.min L 20), ?_, ?_, ?_, by omega, ?_, hbd.2.1, by rw [hl]; exact hrd⟩
  · rw [hl, hm]; split <;> omega
  · rw [hl, hm]; split <;> split <;> omega
  · rw [hl, hm]; split <;> omega
  · rw [hl, hm]; split <;> omega

/-- One of them, its nodes cut. -/
theorem IsOps12.at {w w' : World} {a : Option Addr} {len cap : Nat} (h : IsOps12 w a len cap) (hb : Below w.heap.size w w') {r : Nat} (hr : r < len) : ∃ (b off d j : Nat) (k : Int) (A : Option Addr) (L C : Nat) (t : List Int) (on : Bool), a = some ⟨b, off, none⟩ ∧
    w'.cell? ⟨b, off + r * 5, none⟩ = some (.int .u8 (d : Int)) ∧ w'.cell? ⟨b, off + r * 5 + 1, none⟩ = some (.int .u32 (j : Int)) ∧ w'.cell? ⟨b, off + r * 5 + 2, none⟩ = some (.int .i64 k) ∧ w'.cell? ⟨b, off + r * 5 + 3, none⟩ = some (.slice A L C) ∧ w'.cell? ⟨b, off + r * 5 + 4, none⟩ = some (.bool on) ∧
    d < 256 ∧ j < 4294967296 ∧ (-9223372036854775808 ≤ k ∧ k ≤ 9223372036854775807) ∧ Cut12 w' A L C t := by
  rcases h with ⟨_, rfl, _⟩ | ⟨x, rfl, h1, h2, h3⟩
  · omega
  · obtain ⟨d, j, k, A, L, C, zs, on, k0, k1, k2, k3, k4, hd, hj, hk, hrow⟩ := h3 r hr
    obtain ⟨b, off, spot⟩ := x
    have hs : spot = none := by
      obtain ⟨_, _, _, _, _, _, _, _, z0, _⟩ := h3 0 (by omega)
      simpa [Addr.add] using World.cell?_spot z0
    subst hs
    obtain ⟨t, ht⟩ := cut12_of hrow
    rw [Addr.add_lit] at k0 k1 k2 k3 k4
    have hlt : b < w.heap.size := World.block_lt_of_cell? _ _ k0
    have f : ∀ (q : Nat) (v : Value), w.cell? ⟨b, off + (r * 5 + q), none⟩ = some v → w'.cell? ⟨b, off + r * 5 + q, none⟩ = some v := fun q v hv => by
      rw [Nat.add_assoc]
      exact (hb.cell (p := ⟨b, off + (r * 5 + q), none⟩) hlt).trans hv
    exact ⟨b, off, d, j, k, A, L, C, t, on, rfl, (hb.cell (p := ⟨b, off + r * 5, none⟩) hlt).trans k0, f 1 _ k1, f 2 _ k2, f 3 _ k3, f 4 _ k4, hd, hj, hk, ht.below hb⟩

end Go.Proofs.Ytdongghjchnpbaa

namespace Go.Proofs.Ytdongghjchnpbaa
open Go.RowKit Go.Shelf Go.ChangeShapes Go.Deep
set_option linter.unusedVariables false
set_option linter.unusedSimpArgs false

/-- A row that didn't stand before. -/
def Fresh (w : World) (v : Value) : Prop := ∀ g o n c, v = .slice (some ⟨g, o, none⟩) n c → w.heap.size ≤ g
theorem fresh_nil (w : World) : Fresh w (.slice none 0 0) := by intro g o n c e; simp at e
theorem fresh_own {w w' : World} {e : TypeId} {v : Value} {n : Nat} {xs : List Value} (h : w'.ownsRow w.heap.size e 1 v n xs) : Fresh w v := by
  intro g o n' c e'
  rcases h.2 with ⟨rfl, hn⟩ | ⟨g', cap, cur, rfl, hb, _⟩
  · simp at e'
  · simp only [Value.slice.injEq, Option.some.injEq, Addr.mk.injEq] at e'
    omega

def PlOff (w : World) (p : Nat × List Nat × Nat × Mx) (e : Ending) (w' : World) : Prop :=
  ∃ v, e = .returned (.tuple #[.int .i64 (p.1 : Nat), v, .int .i64 (p.2.2.1 : Nat)]) ∧ RdV w' v (p.2.1.map iv) ∧ Fresh w v

theorem place_off (w : World) (b j : Nat) (k : Int) (m : Mx) (h : MxAt w b m) (hj2 : j < 4294967296) :
    Calls Try.prog 14 #[.pointer (some ⟨b, 0, none⟩), .int .u32 (j : Nat), .int .i64 k] w fun e w' => PlOff w (m.pl j k) e w' ∧ MxAt w' b (m.pl j k).2.2.2 ∧ Keeps (fun i => i = b) w w' := by
  have hB : ∀ {w'}, Below w.heap.size w w' → MxAt w' b m ∧ Keeps (fun i => i = b) w w' := fun hb => ⟨h.below hb h.lt, Keeps.of_below hb fun i hi hge => absurd hi (by omega)⟩
  by_cases harg : j = 0 ∨ k < 1
  · rw [pl_arg harg]
    refine (place_arg w b j k harg).mono ?_
    rintro e w' ⟨rfl, rfl⟩
    exact ⟨⟨_, rfl, RdV.nil _, fresh_nil _⟩, h, Keeps.refl _ _⟩
  · have hj : j ≠ 0 := fun e => harg (.inl e)
    have hk : 1 ≤ k := by omega
    cases hw : m.where j with
    | some r =>
      rw [pl_twice harg hw]
      refine (place_twice w b j r k m h hj hk hw).mono ?_
      rintro e w' ⟨rfl, hb⟩
      exact ⟨⟨_, rfl, RdV.nil _, fresh_nil _⟩, hB hb⟩
    | none =>
      by_cases hwd : (m.n : Int) < k
      · rw [pl_wide harg hw hwd]
        refine (place_wide w b j k m h hj hk hw hwd).mono ?_
        rintro e w' ⟨rfl, hb⟩
        exact ⟨⟨_, rfl, RdV.nil _, fresh_nil _⟩, hB hb⟩
      · obtain ⟨kn, rfl⟩ := Int.eq_ofNat_of_zero_le (show 0 ≤ k by omega)
        cases hr : m.room kn 0 m.r with
        | none =>
          rw [pl_full harg hw (by omega) hr]
          refine (place_full w b j kn m h hj (by omega) hw (by omega) hr).mono ?_
          rintro e w' ⟨rfl, hb⟩
          exact ⟨⟨_, rfl, RdV.nil _, fresh_nil _⟩, hB hb⟩
        | some r =>
          rw [pl_yes harg hw (by omega) hr]
          refine (place_yes w b j kn r m h hj hj2 (by omega) hw (by omega) hr).mono ?_
          rintro e w' ⟨v, rfl, hv, hm, hkp⟩
          exact ⟨⟨v, rfl, RdV.of_own hv, fresh_own hv⟩, hm, hkp⟩

theorem RdV.keepsF {S : Nat → Prop} {w w1 w2 : World} {v : Value} {xs : List Value} (h : RdV w1 v xs) (hf : Fresh w v) (hk : Keeps S w1 w2) (hS : ∀ k, S k → k < w.heap.size) : RdV w2 v xs := by
  rcases h with h | ⟨b, off, cap, rfl, h1, h2, h3, h4⟩
  · exact .inl h
  · have hb := hf b off _ _ rfl
    exact .inr ⟨b, off, cap, rfl, h1, h2, by have := hk.size; omega, fun j x hj => (hk.cell (p := ⟨b, off + j, none⟩) h3 (fun hs => by have : b < w.heap.size := hS b hs; omega)).trans (h4 j x hj)⟩

theorem pl_cases (m : Mx) (j : Nat) (k : Int) : (m.pl j k).2.2.2 = m ∨ ∃ r kn, j ≠ 0 ∧ 1 ≤ kn ∧ m.where j = none ∧ r < m.r ∧ kn ≤ (m.free r).length ∧ (m.pl j k).2.2.2 = m.stand r ((m.free r).take kn) j := by
  by_cases harg : j = 0 ∨ k < 1
  · rw [pl_arg harg]; exact .inl rfl
  · cases hw : m.where j with
    | some r => rw [pl_twice harg hw]; exact .inl rfl
    | none =>
      by_cases hwd : (m.n : Int) < k
      · rw [pl_wide harg hw hwd]; exact .inl rfl
      · obtain ⟨kn, rfl⟩ := Int.eq_ofNat_of_zero_le (show 0 ≤ k by omega)
        cases hr : m.room kn 0 m.r with
        | none => rw [pl_full harg hw (by omega) hr]; exact .inl rfl
        | some r =>
          rw [pl_yes harg hw (by omega) hr]
          obtain ⟨_, h1, h2, _⟩ := Mx.room_some _ _ _ hr
          exact .inr ⟨r, kn, fun e => harg (.inl e), by omega, rfl, by omega, h2, rfl⟩
theorem pl_r (m : Mx) (j : Nat) (k : Int) : (m.pl j k).2.2.2.r = m.r := by
  rcases pl_cases m j k with h | ⟨r, kn, _, _, _, _, _, h⟩
  · rw [h]
  · rw [h, Mx.stand_r]
theorem One.pl {m : Mx} {j : Nat} {k : Int} (ho : One m) (hn : m.n ≤ 16) : One (m.pl j k).2.2.2 := by
  rcases pl_cases m j k with h | ⟨r, kn, hj, hk, hw, hr, hf, h⟩
  · rw [h]; exact ho
  · rw [h]; exact ho.stand hn hj (free_okl hk hf) hw free_fit hr
theorem rm_r (m : Mx) (j : Nat) : (m.rmM j).r = m.r := by 
  unfold Mx.rmM
  split
  · rfl
  · exact Mx.stand_r _ _ _ _
theorem One.rmM {m : Mx} {j : Nat} (ho : One m) (hn : m.n ≤ 16) : One (m.rmM j) := by
  unfold Mx.rmM
  split
  · exact ho
  · rename_i r hr
    intro j' a b hj' ha hb h h'
    rw [Mx.stand_r] at ha hb
    have hl : ∀ x ∈ m.own r j, x < 16 := fun x hx => by have := (own_mem.1 hx).1; omega
    have key : ∀ c, (m.stand r (m.own r j) 0).own c j' ≠ [] → m.own c j' ≠ [] := by
      intro c hc e
      apply hc
      refine own_nil fun x hx => ?_
      rw [Mx.stand_n] at hx
      rw [Mx.stand_cell _ _ _ _ _ _ hl (by omega)]
      split
      · exact fun h => hj' h.symm
      · intro h2
        have h3 : x ∈ m.own c j' := own_mem.2 ⟨hx, h2⟩
        rw [e] at h3; cases h3
    exact ho j' a b hj' ha hb (key a h) (key b h')
theorem One.mx0 (r n : Nat) : One (mx0 r n) := by
  intro j a b hj ha hb h h'
  exact absurd (own_nil (m := Go.Proofs.Ytdongghjchnpbaa.mx0 r n) (i := a) (j := j) fun x hx e => hj e.symm) h

/-- The program's matrix and the document's, the program's copy and the document's. -/
structure Four (w : World) (lo0 b lo : Nat) (G : Geo) (m : Mx) (b2 l2 : Nat) (H : Geo) (m2 : Mx) : Prop where
  at_ : MxAt w b m
  x : RxAt w lo G m
  o : One m
  at2 : MxAt w b2 m2
  x2 : RxAt w l2 H m2
  o2 : One m2
  low : lo0 ≤ b
  bl : b < lo
  ab : ∀ k, G.all m.r k → k < b2
  bl2 : b2 < l2

theorem Four.keep {w w' : World} {lo0 b lo : Nat} {G : Geo} {m : Mx} {b2 l2 : Nat} {H : Geo} {m2 : Mx} (h : Four w lo0 b lo G m b2 l2 H m2) (hb : Below w.heap.size w w') : Four w' lo0 b lo G m b2 l2 H m2 :=
  ⟨h.at_.below hb h.at_.lt, h.x.below hb (Nat.le_refl _), h.o, h.at2.below hb h.at2.lt, h.x2.below hb (Nat.le_refl _), h.o2, h.low, h.bl, h.ab, h.bl2⟩
theorem Four.b_lt {w : World} {lo0 b lo : Nat} {G : Geo} {m : Mx} {b2 l2 : Nat} {H : Geo} {m2 : Mx} (h : Four w lo0 b lo G m b2 l2 H m2) : b < b2 := by
  have h1 := h.ab _ (.inl rfl); have h2 := h.x.lox; have := h.bl; omega
/-- Behind the program's call, the document's stands as it stood. -/
theorem Four.prog {w w1 : World} {lo0 b lo : Nat} {G : Geo} {m : Mx} {b2 l2 : Nat} {H : Geo} {m2 : Mx} (h : Four w lo0 b lo G m b2 l2 H m2) (hk : Keeps (fun i => i = b) w w1) : RxAt w1 lo G m :=
  h.x.keeps hk fun k hk' e => by have := h.x.low k hk'; have := h.bl; omega
/-- Both were called. -/
theorem Four.step {w w1 w2 : World} {lo0 b lo : Nat} {G : Geo} {m m' : Mx} {b2 l2 : Nat} {H : Geo} {m2 : Mx} (h : Four w lo0 b lo G m b2 l2 H m2) (hm : MxAt w1 b m') (hk : Keeps (fun i => i = b) w w1) (hx : RxAt w2 lo G m')
    (hk2 : Keeps (G.all m.r) w1 w2) (hr : m'.r = m.r) (ho : One m') (hl : lo0 ≤ w.heap.size) : Four w2 lo0 b lo G m' b2 l2 H m2 ∧ Below lo0 w w2 := by
  have hbb := h.b_lt
  have hk3 : Keeps (fun i => i = b ∨ G.all m.r i) w w2 := (hk.mono (fun i _ e => Or.inl e)).trans' hk2 (fun i _ e => .inr e)
  refine ⟨⟨hm.block (hk2.block b hm.lt fun e => ?_), hx, ho, h.at2.block (hk3.block b2 h.at2.lt ?_), h.x2.keeps hk3 ?_, h.o2, h.low, h.bl, fun k hk' => h.ab k (by rw [← hr]; exact hk'), h.bl2⟩, hk3.below hl ?_⟩
  · have := h.x.low _ e; have := h.bl; omega
  · rintro (e | e)
    · omega
    · have := h.ab _ e; omega
  · intro k hk' hs
    have h1 := h.x2.low k hk'
    have h2 := h.bl2
    rcases hs with e | e
    · omega
    · have := h.ab _ e; omega
  · rintro i (e | e)
    · have := h.low; omega
    · have := h.x.low _ e; have := h.bl; have := h.low; omega
/-- Behind what is done to the document's, the program's stands as it stood. -/
theorem Four.docs {w w1 : World} {lo0 b lo : Nat} {G : Geo} {m : Mx} {b2 l2 : Nat} {H : Geo} {m2 : Mx} (h : Four w lo0 b lo G m b2 l2 H m2) (hk : Keeps (G.all m.r) w w1) : MxAt w1 b m :=
  h.at_.block (hk.block b h.at_.lt fun e => by have := h.x.low _ e; have := h.bl; omega)
/-- Both were called, the document's first. -/
theorem Four.step2 {w w1 w2 : World} {lo0 b lo : Nat} {G : Geo} {m m' : Mx} {b2 l2 : Nat} {H : Geo} {m2 : Mx} (h : Four w lo0 b lo G m b2 l2 H m2) (hx : RxAt w1 lo G m') (hk : Keeps (G.all m.r) w w1) (hm : MxAt w2 b m')
    (hk2 : Keeps (fun i => i = b) w1 w2) (hr : m'.r = m.r) (ho : One m') (hl : lo0 ≤ w.heap.size) : Four w2 lo0 b lo G m' b2 l2 H m2 ∧ Below lo0 w w2 := by
  have hbb := h.b_lt
  have hk3 : Keeps (fun i => i = b ∨ G.all m.r i) w w2 := (hk.mono (fun i _ e => Or.inr e)).trans' hk2 (fun i _ e => .inl e)
  refine ⟨⟨hm, hx.keeps hk2 fun k hk' e => ?_, ho, h.at2.block (hk3.block b2 h.at2.lt ?_), h.x2.keeps hk3 ?_, h.o2, h.low, h.bl, fun k hk' => h.ab k (by rw [← hr]; exact hk'), h.bl2⟩, hk3.below hl ?_⟩
  · have := hx.low k hk'; have := h.bl; omega
  · rintro (e | e)
    · omega
    · have := h.ab _ e; omega
  · intro k hk' hs
    have h1 := h.x2.low k hk'
    have h2 := h.bl2
    rcases hs with e | e
    · omega
    · have := h.ab _ e; omega
  · rintro i (e | e)
    · have := h.low; omega
    · have := h.x.low _ e; have := h.bl; have := h.low; omega
/-- Both are copied anew. -/
theorem Four.fresh {w w1 w2 : World} {lo0 b lo : Nat} {G : Geo} {m : Mx} {H : Geo} (hm : MxAt w b m) (hx : RxAt w lo G m) (ho : One m) (hlo : lo0 ≤ b) (hbl : b < lo)
    (h1 : MxAt w1 w.heap.size m) (hb1 : Below w.heap.size w w1) (h2 : RxAt w2 w1.heap.size H m) (hb2 : Below w1.heap.size w1 w2) : Four w2 lo0 b lo G m w.heap.size w1.heap.size H m := by
  have hb : Below w.heap.size w w2 := hb1.trans (hb2.mono hb1.size)
  exact ⟨hm.below hb hm.lt, hx.below hb (Nat.le_refl _), ho, h1.below hb2 h1.lt, h2, ho, hlo, hbl, fun k hk => hx.lt k hk, h1.lt⟩

end Go.Proofs.Ytdongghjchnpbaa
