/-
  The document's matrix over the same plain one: where it lies; its Of.
-/
import Derived.Test.YtdongghjchnpbaaShfA
import Derived.Test.YtdongghjchnpbaaAppR
namespace Go.Proofs.Ytdongghjchnpbaa
open Go.RowKit Go.Shelf
set_option linter.unusedVariables false

/-- Where its parts lie: itself, the rows' slice, the rows, who is up. -/
structure Geo where
  x : Nat
  bc : Nat
  cc : Nat
  bu : Nat
  cu : Nat
  g : Nat → Nat
  cp : Nat → Nat

structure RxAt (w : World) (lo : Nat) (G : Geo) (m : Mx) : Prop where
  blk : w.heap[G.x]? = some (.cells #[.slice (some ⟨G.bc, 0, none⟩) m.r G.cc, .slice (some ⟨G.bu, 0, none⟩) m.n G.cu] 49 (0, 0))
  rows : ∃ z : Array Value, w.heap[G.bc]? = some (.cells z 60 (0, 0)) ∧ ∀ i, i < m.r → z[i]? = some (.slice (some ⟨G.g i, 0, none⟩) m.n (G.cp i))
  cells : ∀ i, i < m.r → ∃ z : Array Value, w.heap[G.g i]? = some (.cells z 33 (0, 0)) ∧ ∀ k, k < m.n → z[k]? = some (uv (m.c (16 * i + k)))
  ups : ∃ z : Array Value, w.heap[G.bu]? = some (.cells z 4 (0, 0)) ∧ ∀ k, k < m.n → z[k]? = some (.bool (!m.d k))
  inj : ∀ i k, i < m.r → k < m.r → G.g i = G.g k → i = k
  lox : lo ≤ G.x
  loc : lo ≤ G.bc
  lou : lo ≤ G.bu
  log : ∀ i, i < m.r → lo ≤ G.g i
  ccr : m.r ≤ G.cc
  ccm : G.cc ≤ 9223372036854775807
  cur : m.n ≤ G.cu
  cum : G.cu ≤ 9223372036854775807
  cpn : ∀ i, i < m.r → m.n ≤ G.cp i ∧ G.cp i ≤ 9223372036854775807
  r1 : 1 ≤ m.r
  r8 : m.r ≤ 8
  n1 : 1 ≤ m.n
  n16 : m.n ≤ 16
  c32 : ∀ k, m.c k < 4294967296

/-- The blocks of its rows. -/
def Geo.own (G : Geo) (r k : Nat) : Prop := ∃ i, i < r ∧ k = G.g i
/-- All its blocks. -/
def Geo.all (G : Geo) (r k : Nat) : Prop := k = G.x ∨ k = G.bc ∨ k = G.bu ∨ G.own r k

theorem RxAt.c0 {w : World} {lo : Nat} {G : Geo} {m : Mx} (h : RxAt w lo G m) : w.cell? ⟨G.x, 0, none⟩ = some (.slice (some ⟨G.bc, 0, none⟩) m.r G.cc) := by rw [cell_of_row _ _ _ _ _ _ h.blk]; rfl
theorem RxAt.c1 {w : World} {lo : Nat} {G : Geo} {m : Mx} (h : RxAt w lo G m) : w.cell? ⟨G.x, 1, none⟩ = some (.slice (some ⟨G.bu, 0, none⟩) m.n G.cu) := by rw [cell_of_row _ _ _ _ _ _ h.blk]; rfl
theorem RxAt.row {w : World} {lo : Nat} {G : Geo} {m : Mx} (h : RxAt w lo G m) (i : Nat) (hi : i < m.r) : w.cell? ⟨G.bc, i, none⟩ = some (.slice (some ⟨G.g i, 0, none⟩) m.n (G.cp i)) := by
  obtain ⟨z, h1, h2⟩ := h.rows
  rw [cell_of_row _ _ _ _ _ _ h1]; exact h2 i hi
theorem RxAt.cell {w : World} {lo : Nat} {G : Geo} {m : Mx} (h : RxAt w lo G m) (i k : Nat) (hi : i < m.r) (hk : k < m.n) : w.cell? ⟨G.g i, k, none⟩ = some (.int .u32 (m.c (16 * i + k) : Nat)) := by
  obtain ⟨z, h1, h2⟩ := h.cells i hi
  rw [cell_of_row _ _ _ _ _ _ h1]; exact h2 k hk
theorem RxAt.frz {w : World} {lo : Nat} {G : Geo} {m : Mx} (h : RxAt w lo G m) (i k : Nat) (hi : i < m.r) : w.frozen? ⟨G.g i, k, none⟩ = false := by
  obtain ⟨z, h1, h2⟩ := h.cells i hi
  exact frozen_of_row _ _ _ _ _ h1
theorem RxAt.up {w : World} {lo : Nat} {G : Geo} {m : Mx} (h : RxAt w lo G m) (k : Nat) (hk : k < m.n) : w.cell? ⟨G.bu, k, none⟩ = some (.bool (!m.d k)) := by
  obtain ⟨z, h1, h2⟩ := h.ups
  rw [cell_of_row _ _ _ _ _ _ h1]; exact h2 k hk
theorem RxAt.upf {w : World} {lo : Nat} {G : Geo} {m : Mx} (h : RxAt w lo G m) (k : Nat) : w.frozen? ⟨G.bu, k, none⟩ = false := by
  obtain ⟨z, h1, h2⟩ := h.ups
  exact frozen_of_row _ _ _ _ _ h1

theorem RxAt.lt {w : World} {lo : Nat} {G : Geo} {m : Mx} (h : RxAt w lo G m) : ∀ k, G.all m.r k → k < w.heap.size := by
  rintro k (rfl | rfl | rfl | ⟨i, hi, rfl⟩)
  · exact (Array.getElem?_eq_some_iff.1 h.blk).1
  · obtain ⟨z, h1, _⟩ := h.rows; exact (Array.getElem?_eq_some_iff.1 h1).1
  · obtain ⟨z, h1, _⟩ := h.ups; exact (Array.getElem?_eq_some_iff.1 h1).1
  · obtain ⟨z, h1, _⟩ := h.cells i hi; exact (Array.getElem?_eq_some_iff.1 h1).1

theorem RxAt.low {w : World} {lo : Nat} {G : Geo} {m : Mx} (h : RxAt w lo G m) : ∀ k, G.all m.r k → lo ≤ k := by
  rintro k (rfl | rfl | rfl | ⟨i, hi, rfl⟩)
  · exact h.lox
  · exact h.loc
  · exact h.lou
  · exact h.log i hi

theorem RxAt.to {w w' : World} {lo : Nat} {G : Geo} {m : Mx} (h : RxAt w lo G m) (hb : ∀ k, G.all m.r k → w'.heap[k]? = w.heap[k]?) : RxAt w' lo G m := by
  refine { h with blk := ?_, rows := ?_, cells := ?_, ups := ?_ }
  · rw [hb _ (.inl rfl)]; exact h.blk
  · rw [hb _ (.inr (.inl rfl))]; exact h.rows
  · intro i hi; rw [hb _ (.inr (.inr (.inr ⟨i, hi, rfl⟩)))]; exact h.cells i hi
  · rw [hb _ (.inr (.inr (.inl rfl)))]; exact h.ups

theorem RxAt.below {w w' : World} {lo B : Nat} {G : Geo} {m : Mx} (h : RxAt w lo G m) (hb : Below B w w') (hB : w.heap.size ≤ B) : RxAt w' lo G m :=
  h.to fun k hk => hb.block k (by have := h.lt k hk; omega)
theorem RxAt.keeps {w w' : World} {lo : Nat} {S : Nat → Prop} {G : Geo} {m : Mx} (h : RxAt w lo G m) (hk : Keeps S w w') (hS : ∀ k, G.all m.r k → ¬ S k) : RxAt w' lo G m :=
  h.to fun k hk' => hk.block k (h.lt k hk') (hS k hk')
theorem RxAt.mono {w : World} {lo lo' : Nat} {G : Geo} {m : Mx} (h : RxAt w lo G m) (hl : lo' ≤ lo) : RxAt w lo' G m :=
  { h with lox := Nat.le_trans hl h.lox, loc := Nat.le_trans hl h.loc, lou := Nat.le_trans hl h.lou, log := fun i hi => Nat.le_trans hl (h.log i hi) }

/-- Rows, nodes and who is up are told by types: a row's block is no other's. -/
theorem RxAt.apart {w : World} {lo : Nat} {G : Geo} {m : Mx} (h : RxAt w lo G m) (i : Nat) (hi : i < m.r) : G.g i ≠ G.x ∧ G.g i ≠ G.bc ∧ G.g i ≠ G.bu := by
  obtain ⟨z, h1, _⟩ := h.cells i hi
  refine ⟨fun e => ?_, fun e => ?_, fun e => ?_⟩
  · have := h.blk; rw [← e, h1] at this; simp at this
  · obtain ⟨y, h2, _⟩ := h.rows; rw [← e, h1] at h2; simp at h2
  · obtain ⟨y, h2, _⟩ := h.ups; rw [← e, h1] at h2; simp at h2

theorem heap_setCell_arr (w : World) (g j : Nat) (cs : Array Value) (t : TypeId) (fr : Nat × Nat) (v : Value) (hg : w.heap[g]? = some (.cells cs t fr)) : (w.setCell ⟨g, j, none⟩ v).heap[g]? = some (.cells (cs.setIfInBounds j v) t fr) := by
  obtain ⟨hlt, hk⟩ := Array.getElem?_eq_some_iff.1 hg
  show (w.heap.modify g _)[g]? = _
  rw [Array.getElem?_eq_getElem (by rw [Array.size_modify]; exact hlt), Array.getElem_modify_self, hk]
  simp

/-- A cell is another job's. -/
theorem RxAt.put {w : World} {lo : Nat} {G : Geo} {m : Mx} (h : RxAt w lo G m) (i k j : Nat) (hi : i < m.r) (hk : k < m.n) (hj : j < 4294967296) : RxAt (w.setCell ⟨G.g i, k, none⟩ (.int .u32 (j : Nat))) lo G (m.put (16 * i + k) j) := by
  have ha := h.apart i hi
  have hn16 := h.n16
  have ho : ∀ q, q ≠ G.g i → (w.setCell ⟨G.g i, k, none⟩ (.int .u32 (j : Nat))).heap[q]? = w.heap[q]? := fun q hq => Below.heap_setCell _ _ _ _ hq
  refine { h with blk := ?_, rows := ?_, cells := ?_, ups := ?_, c32 := ?_ }
  · rw [ho _ (Ne.symm ha.1)]; exact h.blk
  · rw [ho _ (Ne.symm ha.2.1)]; exact h.rows
  · intro q hq
    by_cases e : q = i
    · subst e
      obtain ⟨z, h1, h2⟩ := h.cells q hi
      refine ⟨_, heap_setCell_arr _ _ _ _ _ _ _ h1, fun p hp => ?_⟩
      rw [Array.getElem?_setIfInBounds]
      have hps := (Array.getElem?_eq_some_iff.1 (h2 k hk)).1
      by_cases e : k = p
      · subst e
        rw [if_pos rfl, if_pos hps]
        simp [Mx.put, uv]
      · rw [if_neg e, h2 p hp]
        simp [Mx.put, show ¬ p = k by omega]
    · obtain ⟨z, h1, h2⟩ := h.cells q hq
      refine ⟨z, ?_, fun p hp => ?_⟩
      · rw [ho _ (fun e2 => e (h.inj q i hq hi e2))]; exact h1
      · rw [h2 p hp]
        have hp' : p < m.n := hp
        simp [Mx.put, show 16 * q + p ≠ 16 * i + k by omega]
  · rw [ho _ (Ne.symm ha.2.2)]; exact h.ups
  · intro q
    show (if q = 16 * i + k then j else m.c q) < _
    split
    · exact hj
    · exact h.c32 q

/-- A node is down, or up. -/
theorem RxAt.turn {w : World} {lo : Nat} {G : Geo} {m : Mx} (h : RxAt w lo G m) (k : Nat) (u : Bool) (hk : k < m.n) : RxAt (w.setCell ⟨G.bu, k, none⟩ (.bool u)) lo G (m.turn k (!u)) := by
  obtain ⟨z, h1, h2⟩ := h.ups
  have hne : ∀ q, (∃ cs t fr, w.heap[q]? = some (.cells cs t fr) ∧ t ≠ 4) → q ≠ G.bu := by
    rintro q ⟨cs, t, fr, e, ht⟩ rfl
    rw [h1] at e
    simp only [Option.some.injEq, Obj.cells.injEq] at e
    exact ht e.2.1.symm
  have ho : ∀ q, q ≠ G.bu → (w.setCell ⟨G.bu, k, none⟩ (.bool u)).heap[q]? = w.heap[q]? := fun q hq => Below.heap_setCell _ _ _ _ hq
  refine { h with blk := ?_, rows := ?_, cells := ?_, ups := ?_ }
  · rw [ho _ (hne _ ⟨_, _, _, h.blk, by decide⟩)]; exact h.blk
  · obtain ⟨y, h3, h4⟩ := h.rows
    exact ⟨y, by rw [ho _ (hne _ ⟨_, _, _, h3, by decide⟩)]; exact h3, h4⟩
  · intro i hi
    obtain ⟨y, h3, h4⟩ := h.cells i hi
    exact ⟨y, by rw [ho _ (hne _ ⟨_, _, _, h3, by decide⟩)]; exact h3, h4⟩
  · refine ⟨_, heap_setCell_arr _ _ _ _ _ _ _ h1, fun p hp => ?_⟩
    have hp' : p < m.n := hp
    rw [Array.getElem?_setIfInBounds]
    have hps := (Array.getElem?_eq_some_iff.1 (h2 k hk)).1
    by_cases e : k = p
    · subst e
      rw [if_pos rfl, if_pos hps]
      simp [Mx.turn]
    · rw [if_neg e, h2 p hp']
      simp [Mx.turn, show p ≠ k by omega]

/-- The nodes of a row's first k that a job has. -/
def Mx.ownTo (m : Mx) (i j k : Nat) : List Nat := (List.range k).filter fun q => m.c (16 * i + q) == j
theorem ownTo_all (m : Mx) (i j : Nat) : m.ownTo i j m.n = m.own i j := rfl
theorem ownTo_succ (m : Mx) (i j k : Nat) : m.ownTo i j (k + 1) = if m.c (16 * i + k) = j then m.ownTo i j k ++ [k] else m.ownTo i j k := by
  unfold Mx.ownTo
  rw [List.range_succ, List.filter_append]
  by_cases h : m.c (16 * i + k) = j
  · rw [if_pos h]; simp [h]
  · rw [if_neg h]; simp [h]
theorem ownTo_len (m : Mx) (i j k : Nat) : (m.ownTo i j k).length ≤ k := Nat.le_trans (List.length_filter_le _ _) (by simp)

theorem rof_nil (w : World) (j : Nat) :
    Calls Try.prog 38 #[.pointer none, .int .u32 (j : Nat)] w fun e w' => e = .returned (.tuple #[.int .i64 0, .slice none 0 0, .bool false]) ∧ w = w' := by
  go_enter Try.func38, Try.ntmps38
  go_wp2_with fail
  go_ret3
  exact ⟨rfl, rfl⟩

theorem rof_zero (w : World) (b : Nat) :
    Calls Try.prog 38 #[.pointer (some ⟨b, 0, none⟩), .int .u32 0] w fun e w' => e = .returned (.tuple #[.int .i64 0, .slice none 0 0, .bool false]) ∧ w = w' := by
  go_enter Try.func38, Try.ntmps38
  go_wp2_with fail
  go_ret3
  exact ⟨rfl, rfl⟩

theorem where_find {m : Mx} {j i : Nat} (hj : j ≠ 0) (hi : i < m.r) (h : m.own i j ≠ []) (hb : ∀ q, q < i → m.own q j = []) : m.where j = some i := by
  unfold Mx.where
  rw [if_neg hj]
  exact Mx.find_of _ _ (Nat.zero_le _) (by omega) h fun q _ hq => hb q hq

set_option maxHeartbeats 4000000 in
theorem rof_any (w : World) (lo : Nat) (G : Geo) (m : Mx) (j : Nat) (h : RxAt w lo G m) :
    Calls Try.prog 38 #[.pointer (some ⟨G.x, 0, none⟩), .int .u32 (j : Nat)] w fun e w' => ∃ v, e = .returned (.tuple #[.int .i64 ((m.where j).getD 0 : Nat), v, .bool (m.where j).isSome]) ∧ w'.ownsRow w.heap.size 3 1 v (m.nodes j).length ((m.nodes j).map iv) ∧ Below w.heap.size w w' := by
  by_cases hj : j = 0
  · subst hj
    refine (rof_zero w G.x).mono ?_
    rintro e w' ⟨rfl, rfl⟩
    have : m.where 0 = none := by unfold Mx.where; rw [if_pos rfl]
    rw [this, nodes_zero]
    exact ⟨_, rfl, World.ownsRow_nil _ _ _ _, Below.refl _ _⟩
  have hy1 : ((j : Int) == 0) = false := by simp; omega
  have hr8 := h.r8
  have hn16 := h.n16
  have hri : (m.r : Int) ≤ 8 := by omega
  have hni : (m.n : Int) ≤ 16 := by omega
  have hc0 := h.c0
  have hccr := h.ccr
  have hccm := h.ccm
  have HH := hid h
  have HJ := hid hj
  clear h hj
  go_enter Try.func38, Try.ntmps38
  go_wp2_with fail
  go_loopw [23] (fun i wr => ∃ k : Nat, k ≤ m.r ∧ i = .int .i64 k ∧ (∀ q, q < k → m.own q j = []) ∧ Below w.heap.size w wr) (fun i _ => m.r - (intOf i).toNat)
  case atStart => exact ⟨0, Nat.zero_le _, rfl, (fun q hq => absurd hq (by omega)), Below.refl _ _⟩
  case round =>
    obtain ⟨i, hi, rfl, hg, hB⟩ := hrel
    have HG := hid hg
    have HK := hid hB
    have hs0 := hB.size
    have HX := hid (HH.out.below hB (Nat.le_refl _))
    clear hg hB
    by_cases hlt : i < m.r
    · have hii : (i : Int) < (m.r : Int) := by omega
      have hrow := HX.out.row i hlt
      have hcp := HX.out.cpn i hlt
      obtain ⟨hcp1, hcp2⟩ := hcp
      obtain ⟨wq, hwq⟩ : ∃ wq, wq = wr := ⟨_, rfl⟩
      subst hwq
      go_wp2_with fail
      go_loopw [9, 30] (fun v q wr => ∃ k : Nat, k ≤ m.n ∧ q = .int .i64 k ∧ wr.ownsRow w.heap.size 3 1 v (m.ownTo i j k).length ((m.ownTo i j k).map iv) ∧ Below w.heap.size w wr) (fun _ q _ => m.n - (intOf q).toNat)
      case atStart => exact ⟨0, Nat.zero_le _, rfl, World.ownsRow_nil _ _ _ _, HK.out⟩
      case round =>
        obtain ⟨k, hk, rfl, hv, hB⟩ := hrel
        have HV := hid hv
        have HK2 := hid hB
        have hs2 := hB.size
        have HX2 := hid (HH.out.below hB (Nat.le_refl _))
        have hol := ownTo_len m i j k
        have HS := hid (ownTo_succ m i j k)
        clear hv hB
        by_cases hkl : k < m.n
        · have hki : (k : Int) < (m.n : Int) := by omega
          have hcell := HX2.out.cell i k hlt hkl
          by_cases he : m.c (16 * i + k) = j
          · have HS2 := hid (show m.ownTo i j (k + 1) = m.ownTo i j k ++ [k] by rw [HS.out, if_pos he])
            rw [he] at hcell
            have HE := hid he
            obtain ⟨av, cv, rfl, hcv1, hcv2⟩ := owns_slice HV.out
            have hof := hid (owns_below HV.out ((Below.refl _ _).alloc (Nat.le_refl _) (.cells #[.int .i64 (k : Nat)] 3)))
            have hsrc := hid (SrcC.lit wr #[.int .i64 (k : Nat)] 3 1 [iv k] rfl)
            generalize hol' : (m.ownTo i j k).length = ol at *
            have HOL := hid hol'
            clear he hol'
            go_wp2_with (at_builtin; (refine appsw (by rfl) 34 3 (.tmp 38) (.tmp 40) rfl w.heap.size 1 8 _ Try.underlying34 Try.infoInt rfl (by decide) _ _ ol 1 (ol + 1) _ _ rfl rfl hof.out hsrc.out rfl (by intro y hy; rw [List.mem_singleton] at hy; subst hy; rfl) rfl (by omega) (by omega) (by simp; omega) ?_); intro ad9 cp9 wA hoA hgA; have HOA := hid hoA; have HGA := hid hgA; clear hoA hgA)
            have hbA : Below w.heap.size w wA := (HK2.out.alloc (by omega) (.cells #[.int .i64 (k : Nat)] 3)).grown HGA.out (by simp; omega) (fun g hg => (World.ownsRow.lt HV.out g hg).1)
            have HBA := hid hbA
            clear hbA
            go_wp2
            go_roundw
            case rel => exact ⟨k + 1, hkl, by go_num, by rw [HS2.out, List.length_append, HOL.out, List.map_append]; exact HOA.out, HBA.out⟩
            case measure => simp [intOf]; omega
          · have HS2 := hid (show m.ownTo i j (k + 1) = m.ownTo i j k by rw [HS.out, if_neg he])
            have hne1 : (((m.c (16 * i + k) : Nat) : Int) == ((j : Nat) : Int)) = false := by simp; omega
            generalize m.c (16 * i + k) = cv at *
            have hne2 : decide ((cv : Int) = (j : Int)) = false := by simp; omega
            have hne3 : (cv == j) = false := by simp; omega
            clear he
            go_wp2
            go_roundw
            case rel => exact ⟨k + 1, hkl, by go_num, by rw [HS2.out]; exact HV.out, HK2.out⟩
            case measure => simp [intOf]; omega
        · have e : k = m.n := by omega
          have HE := hid (show m.ownTo i j k = m.own i j by rw [e, ownTo_all])
          have hki : ¬ (k : Int) < (m.n : Int) := by omega
          have hvo : wr.ownsRow w.heap.size 3 1 u9 (m.own i j).length ((m.own i j).map iv) := by rw [← HE.out]; exact HV.out
          obtain ⟨av, cv, rfl, hcv1, hcv2⟩ := owns_slice hvo
          have HVO := hid hvo
          clear hkl e hvo HV
          rw [HE.out] at hol
          cases hon : m.own i j with
          | nil =>
            have HON := hid hon
            clear hon hol
            go_wp2
            go_roundw
            case rel => exact ⟨i + 1, hlt, by go_num, fun q hq => by
              by_cases e : q = i
              · rw [e]; exact HON.out
              · exact HG.out q (by omega), HK2.out⟩
            case measure => simp [intOf]; omega
          | cons y ys =>
            have HON := hid hon
            have HW := hid (where_find HJ.out hlt (by rw [hon]; simp) HG.out)
            have hl1 : decide (((y :: ys).length : Int) > 0) = true := by simp
            have hl0 : (0 : Int) < ((y :: ys).length : Int) := by simp
            have HV2 := hid (show wr.ownsRow w.heap.size 3 1 (.slice av (y :: ys).length cv) (y :: ys).length ((y :: ys).map iv) by have := HVO.out; rwa [hon] at this)
            rw [hon] at hcv1 hol
            generalize hgl : (y :: ys).length = ql at *
            have HGL := hid hgl
            clear hon hgl
            go_wp2
            go_ret3
            refine ⟨_, by rw [HW.out]; rfl, ?_, HK2.out⟩
            rw [Mx.nodes_of HW.out, HON.out, HGL.out]
            exact HV2.out
    · have e : i = m.r := by omega
      have HW := hid (show m.where j = none from where_none_of fun q hq => HG.out q (by omega))
      have hki : ¬ (i : Int) < (m.r : Int) := by omega
      clear e hlt
      go_wp2
      go_ret3
      refine ⟨_, by rw [HW.out]; rfl, ?_, HK.out⟩
      rw [nodes_of_none HW.out]
      exact World.ownsRow_nil _ _ _ _

end Go.Proofs.Ytdongghjchnpbaa
