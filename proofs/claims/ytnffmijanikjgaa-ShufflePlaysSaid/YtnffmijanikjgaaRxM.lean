/-
  The document's shuffle: goes, move.
  The document's shuffle: Unify.
  The document's shuffle: Repack.
  Layer 13: same: a matrix is as the document's is, and the moves are.
-/
import Derived.Test.YtnffmijanikjgaaRxF
import Derived.Test.YtnffmijanikjgaaShfM
import Derived.Laws.Rows
import Derived.Test.YtnffmijanikjgaaBldA
namespace Go.Proofs.Ytnffmijanikjgaa
open Go.RowKit Go.Shelf
set_option linter.unusedVariables false

theorem RxAt.ty {w : World} {lo : Nat} {G : Geo} {m : Mx} (h : RxAt w lo G m) : ∀ k, G.all m.r k → ∃ cs t, w.heap[k]? = some (.cells cs t (0, 0)) ∧ t ∈ [49, 64, 4, 33] := by
  rintro k (rfl | rfl | rfl | ⟨i, hi, rfl⟩)
  · exact ⟨_, _, h.blk, by simp⟩
  · obtain ⟨z, h1, _⟩ := h.rows; exact ⟨_, _, h1, by simp⟩
  · obtain ⟨z, h1, _⟩ := h.ups; exact ⟨_, _, h1, by simp⟩
  · obtain ⟨z, h1, _⟩ := h.cells i hi; exact ⟨_, _, h1, by simp⟩

/-- A row of other things lies elsewhere. -/
theorem RxAt.far {w : World} {lo base : Nat} {G : Geo} {m : Mx} {e : TypeId} {size : Nat} {v : Value} {n : Nat} {xs : List Value} (h : RxAt w lo G m) (hv : w.ownsRow base e size v n xs) (he : e ∉ [49, 64, 4, 33]) : ∀ g, v.ownBlock = some g → ¬ G.all m.r g := by
  intro g hg hk
  obtain ⟨cs, t, h1, h2⟩ := h.ty g hk
  obtain ⟨cur, h3⟩ := owns_ty hv g hg
  rw [h1] at h3
  simp only [Option.some.injEq, Obj.cells.injEq] at h3
  exact he (h3.2.1 ▸ h2)

theorem Geo.own_all {G : Geo} {r k : Nat} (h : G.own r k) : G.all r k := .inr (.inr (.inr h))

set_option maxHeartbeats 2000000 in
theorem rgoes_any (w : World) (lo : Nat) (G : Geo) (t : Nat) (m : Mx) (v : Value) (l : List Nat) (h : RxAt w lo G m) (ht : t < m.r) (hr : RdV w v (l.map iv)) (hl : ∀ n ∈ l, n < m.n) :
    Calls Try.prog 57 #[.pointer (some ⟨G.x, 0, none⟩), .int .i64 t, v] w fun e w' => e = .returned (.bool (m.fit t l)) ∧ w = w' := by
  obtain ⟨ad, cap, rfl, hcl, hcm⟩ := hr.len
  rw [List.length_map] at hcl hr
  have hc0 := h.c0
  have hrow := h.row t ht
  obtain ⟨hcp1, hcp2⟩ := h.cpn t ht
  have hr8 := h.r8
  have hn16 := h.n16
  have hri : (m.r : Int) ≤ 8 := by omega
  have hni : (m.n : Int) ≤ 16 := by omega
  have hccr := h.ccr
  have hccm := h.ccm
  have hti : (t : Int) < (m.r : Int) := by omega
  have hlm : l.length ≤ 9223372036854775807 := by omega
  have HX := hid h
  have HR := hid hr
  have HL := hid hl
  clear h hr hl
  rw [List.length_map]
  go_enter Try.func57, Try.ntmps57
  go_wp2
  go_loop [11] (fun q => ∃ k : Nat, k ≤ l.length ∧ q = .int .i64 k ∧ m.fit t (l.take k) = true) (fun q => l.length - (intOf q).toNat)
  case atStart => exact ⟨0, Nat.zero_le _, rfl, rfl⟩
  case round =>
    obtain ⟨k, hk, rfl, ha⟩ := hrel
    have HA := hid ha
    clear ha
    by_cases hlt : k < l.length
    · have hki : (k : Int) < (l.length : Int) := by omega
      obtain ⟨x, hx⟩ : ∃ x, l[k]? = some x := ⟨_, List.getElem?_eq_getElem hlt⟩
      have hxm := List.mem_of_getElem? hx
      have hxn := HL.out x hxm
      have HXM := hid hxm
      have HT := hid (take_snoc' l k x hx)
      obtain ⟨-, g, o, rfl, hg, hcell⟩ := HR.out.at1 k (iv x) (by simp [hx])
      have hcell2 : w.cell? ⟨g, o + k, none⟩ = some (.int .i64 x) := hcell
      have hcx := HX.out.cell t x ht hxn
      have hxi : (x : Int) < (m.n : Int) := by omega
      clear hcell hx hg hxm
      by_cases hz : m.c (16 * t + x) = 0
      · have HZ := hid hz
        rw [hz] at hcx
        clear hz
        go_wp2_with fail
        go_round
        case rel => exact ⟨k + 1, hlt, by go_num, by rw [HT.out]; unfold Mx.fit; rw [List.all_append]; have := HA.out; unfold Mx.fit at this; rw [this]; simp [HZ.out]⟩
        case measure => simp [intOf]; omega
      · obtain ⟨y, hy⟩ : ∃ y, m.c (16 * t + x) = y + 1 := ⟨m.c (16 * t + x) - 1, by omega⟩
        have HF := hid (fit_false_of HXM.out hz)
        rw [hy] at hcx
        have hy1 : ((((y : Nat) : Int) + 1) == 0) = false := by simp; omega
        have hy2 : ((((y : Nat) : Int) + 1) != 0) = true := by simp; omega
        clear hz hy
        go_wp2_with fail
        go_ret
        exact ⟨by rw [HF.out]; rfl, rfl⟩
    · have hki : ¬ (k : Int) < (l.length : Int) := by omega
      have HF := hid (show m.fit t l = true by
        have e : k = l.length := by omega
        have := HA.out
        rwa [e, List.take_length] at this)
      clear hlt
      go_wp2_with fail
      go_ret
      exact ⟨by rw [HF.out]; rfl, rfl⟩

/-- Node by node. -/
def Mx.mvTo (m : Mx) (j f t : Nat) (l : List Nat) : Mx := l.foldl (fun m n => (m.put (16 * f + n) 0).put (16 * t + n) j) m
theorem mvTo_snoc (m : Mx) (j f t : Nat) (l : List Nat) (n : Nat) : m.mvTo j f t (l ++ [n]) = ((m.mvTo j f t l).put (16 * f + n) 0).put (16 * t + n) j := by simp [Mx.mvTo]
theorem mvTo_r (j f t : Nat) : ∀ (l : List Nat) (m : Mx), (m.mvTo j f t l).r = m.r
  | [], _ => rfl
  | n :: l, m => mvTo_r j f t l _
theorem mvTo_n (j f t : Nat) : ∀ (l : List Nat) (m : Mx), (m.mvTo j f t l).n = m.n
  | [], _ => rfl
  | n :: l, m => mvTo_n j f t l _
theorem mvTo_d (j f t : Nat) : ∀ (l : List Nat) (m : Mx), (m.mvTo j f t l).d = m.d
  | [], _ => rfl
  | n :: l, m => mvTo_d j f t l _
theorem mvTo_c {j f t : Nat} (hne : f ≠ t) : ∀ (l : List Nat), (∀ n ∈ l, n < 16) → ∀ (m : Mx) (k : Nat), (m.mvTo j f t l).c k = if (∃ n ∈ l, k = 16 * t + n) then j else if (∃ n ∈ l, k = 16 * f + n) then 0 else m.c k
  | [], _, m, k => by simp [Mx.mvTo]
  | n :: l, hl, m, k => by
    have hn := hl n (by simp)
    have ih := mvTo_c (j := j) hne l (fun x hx => hl x (by simp [hx])) ((m.put (16 * f + n) 0).put (16 * t + n) j) k
    show (((m.put (16 * f + n) 0).put (16 * t + n) j).mvTo j f t l).c k = _
    rw [ih]
    have hmc : ((m.put (16 * f + n) 0).put (16 * t + n) j).c k = if k = 16 * t + n then j else if k = 16 * f + n then 0 else m.c k := rfl
    rw [hmc]
    by_cases h1 : ∃ x ∈ l, k = 16 * t + x
    · rw [if_pos h1, if_pos (by obtain ⟨x, hx, e⟩ := h1; exact ⟨x, by simp [hx], e⟩)]
    · rw [if_neg h1]
      by_cases h2 : k = 16 * t + n
      · have h3 : ¬ ∃ x ∈ l, k = 16 * f + x := by
          rintro ⟨x, hx, e⟩
          have := hl x (by simp [hx])
          omega
        rw [if_neg h3, if_pos h2, if_pos ⟨n, by simp, h2⟩]
      · have h4 : ¬ ∃ x ∈ n :: l, k = 16 * t + x := by
          rintro ⟨x, hx, e⟩
          rcases List.mem_cons.1 hx with rfl | hx
          · exact h2 e
          · exact h1 ⟨x, hx, e⟩
        rw [if_neg h4, if_neg h2]
        by_cases h5 : ∃ x ∈ l, k = 16 * f + x
        · rw [if_pos h5, if_pos (by obtain ⟨x, hx, e⟩ := h5; exact ⟨x, by simp [hx], e⟩)]
        · rw [if_neg h5]
          by_cases h6 : k = 16 * f + n
          · rw [if_pos h6, if_pos ⟨n, by simp, h6⟩]
          · have h7 : ¬ ∃ x ∈ n :: l, k = 16 * f + x := by
              rintro ⟨x, hx, e⟩
              rcases List.mem_cons.1 hx with rfl | hx
              · exact h6 e
              · exact h5 ⟨x, hx, e⟩
            rw [if_neg h6, if_neg h7]

theorem mvTo_mv {m : Mx} {j f t : Nat} (hn : m.n ≤ 16) (hne : f ≠ t) : m.mvTo j f t (m.own f j) = m.mv j f t := by
  have hc : (m.mvTo j f t (m.own f j)).c = (m.mv j f t).c := by
    funext k
    rw [mvTo_c hne _ (own_lt hn)]
    unfold Mx.mv
    rw [Mx.stand_c, Mx.stand_c]
  have hr := (mvTo_r j f t (m.own f j) m).trans (mv_r m j f t).symm
  have hnn := (mvTo_n j f t (m.own f j) m).trans (mv_n m j f t).symm
  have hd := (mvTo_d j f t (m.own f j) m).trans (mv_d m j f t).symm
  cases h1 : m.mvTo j f t (m.own f j) with
  | mk r1 n1 c1 d1 =>
    cases h2 : m.mv j f t with
    | mk r2 n2 c2 d2 =>
      rw [h1, h2] at hc hr hnn hd
      simp only at hc hr hnn hd
      rw [hc, hr, hnn, hd]

theorem size_rmove : (Try.prog.info? 105).map (·.size) = some 3 := by kernel_rfl
theorem infoRMove : (Try.prog.info? 105).map (fun i => (i.zero, i.size, i.bytes)) = some (some (.agg #[.int .u32 0, .int .i64 0, .int .i64 0]), 3, 24) := by kernel_rfl

abbrev rmArr (j f t : Nat) : Array Value := #[.int .u32 (j : Nat), .int .i64 (f : Nat), .int .i64 (t : Nat)]

set_option maxRecDepth 100000 in
set_option maxHeartbeats 4000000 in
theorem rmove_any (w : World) (lo : Nat) (G : Geo) (j f t : Nat) (m : Mx) (h : RxAt w lo G m) (hc : CanGo m j f t) (hj2 : j < 4294967296) :
    Calls Try.prog 58 #[.pointer (some ⟨G.x, 0, none⟩), .int .u32 (j : Nat), .int .i64 t] w fun e w' => e = .returned (.agg (rmArr j f t)) ∧ RxAt w' lo G (m.mv j f t) ∧ Keeps (G.own m.r) w w' := by
  have hr8 := h.r8
  have hn16 := h.n16
  have hri : (m.r : Int) ≤ 8 := by omega
  have hni : (m.n : Int) ≤ 16 := by omega
  have hccr := h.ccr
  have hccm := h.ccm
  have htr := hc.tr
  have hfr := hc.fr
  have hne := hc.ne
  have hti : (t : Int) < (m.r : Int) := by omega
  have hfi : (f : Int) < (m.r : Int) := by omega
  have hb0 : Below w.heap.size w (w.alloc (.cells #[.int .u32 0, .int .i64 0, .int .i64 0] 105)) := (Below.refl _ w).alloc (Nat.le_refl _) _
  have HX0 := hid (h.below hb0 (Nat.le_refl _))
  have HG0 := hid (heap_alloc_new w (.cells #[.int .u32 0, .int .i64 0, .int .i64 0] 105))
  have HB0 := hid hb0
  have HLT := hid h.lt
  have HC := hid hc
  have HJ2 := hid hj2
  have HNE := hid hne
  have HW := hid hc.wh
  have hs0 : (w.alloc (.cells #[.int .u32 0, .int .i64 0, .int .i64 0] 105)).heap.size = w.heap.size + 1 := by simp
  have HS0 := hid hs0
  clear h hc hb0 hj2 hne hs0
  go_enter Try.func58, Try.ntmps58
  go_wp2_with fail
  refine (rof_any _ lo G m j HX0.out).mono ?_
  rintro e w1 ⟨v, rfl, hv, hb1⟩
  rw [HW.out]
  rw [Mx.nodes_of HW.out] at hv
  have HX1 := hid (HX0.out.below hb1 (Nat.le_refl _))
  have HG1 := hid ((hb1.block w.heap.size (by have := HS0.out; omega)).trans HG0.out)
  have HB1 := hid (HB0.out.trans (hb1.mono HB0.out.size))
  have hs1 := hb1.size
  obtain ⟨ad, cp, rfl, hcl, hcm⟩ := (RdV.of_own hv).len
  have HR := hid (RdV.of_own hv)
  rw [List.length_map] at hcl HR
  have HNG := hid (show ∀ g o, ad = some ⟨g, o, none⟩ → w.heap.size ≤ g from fun g o e => by
    subst e
    rcases hv.2 with ⟨hv, _⟩ | ⟨g', cap', cur', hv, hbb, _⟩
    · cases hv
    · simp only [Value.slice.injEq, Option.some.injEq, Addr.mk.injEq] at hv
      have := HS0.out
      omega)
  have HL := hid (fun x (hx : x ∈ m.own f j) => (own_mem.1 hx).1)
  have HMV := hid (mvTo_mv (m := m) (j := j) (f := f) (t := t) hn16 HNE.out)
  clear hb1 hv
  rw [List.length_map]
  generalize hol : m.own f j = l at *
  clear hol
  go_wp2_with fail
  go_loopw [21] (fun q wr => ∃ k : Nat, k ≤ l.length ∧ q = .int .i64 k ∧ RxAt wr lo G (m.mvTo j f t (l.take k)) ∧ Keeps (G.own m.r) w1 wr) (fun q _ => l.length - (intOf q).toNat)
  case atStart => exact ⟨0, Nat.zero_le _, rfl, HX1.out, Keeps.refl _ _⟩
  case round =>
    obtain ⟨k, hk, rfl, hm, hkp⟩ := hrel
    have HM := hid hm
    have HKP := hid hkp
    have hc0 := hm.c0
    have hrf := hm.row f (by rw [mvTo_r]; exact hfr)
    have hrt := hm.row t (by rw [mvTo_r]; exact htr)
    obtain ⟨hpf1, hpf2⟩ := hm.cpn f (by rw [mvTo_r]; exact hfr)
    obtain ⟨hpt1, hpt2⟩ := hm.cpn t (by rw [mvTo_r]; exact htr)
    rw [mvTo_n] at hrf hrt hpf1 hpt1
    rw [mvTo_r] at hc0
    clear hm hkp
    by_cases hlt : k < l.length
    · have hki : (k : Int) < (l.length : Int) := by omega
      obtain ⟨x, hx⟩ : ∃ x, l[k]? = some x := ⟨_, List.getElem?_eq_getElem hlt⟩
      have hxm := List.mem_of_getElem? hx
      have hxn := HL.out x hxm
      have HT := hid (take_snoc' l k x hx)
      have hrd := HR.out.blk HKP.out (fun g o e => by
        intro h1
        have h2 := HNG.out g o e
        have h3 := HLT.out g (Geo.own_all h1)
        omega)
      obtain ⟨-, g, o, hae, hg, hcell⟩ := hrd.at1 k (iv x) (by simp [hx])
      have hcell2 : wr.cell? ⟨g, o + k, none⟩ = some (.int .i64 x) := hcell
      have hf1 : f < (m.mvTo j f t (l.take k)).r := by rw [mvTo_r]; exact hfr
      have ht1 : t < (m.mvTo j f t (l.take k)).r := by rw [mvTo_r]; exact htr
      have hx1 : x < (m.mvTo j f t (l.take k)).n := by rw [mvTo_n]; exact hxn
      have h1 := HM.out.put f x 0 hf1 hx1 (by omega)
      have hcx := HM.out.cell f x hf1 hx1
      have hfx := HM.out.frz f x hf1
      have k1 : Keeps (G.own m.r) wr (wr.setCell ⟨G.g f, x, none⟩ (.int .u32 ((0 : Nat) : Int))) := (Keeps.refl (G.own m.r) wr).setCell (p := ⟨G.g f, x, none⟩) (fun _ => ⟨f, hfr, rfl⟩) _
      have c1 := h1.c0
      have c2 := h1.row t ht1
      have c3 := h1.cell t x ht1 hx1
      have c4 := h1.frz t x ht1
      rw [show ((m.mvTo j f t (l.take k)).put (16 * f + x) 0).r = (m.mvTo j f t (l.take k)).r from rfl, mvTo_r] at c1
      rw [show ((m.mvTo j f t (l.take k)).put (16 * f + x) 0).n = (m.mvTo j f t (l.take k)).n from rfl, mvTo_n] at c2
      have h2 := h1.put t x j ht1 hx1 HJ2.out
      rw [← mvTo_snoc, ← HT.out] at h2
      have HN := hid h2
      have HK2 := hid ((HKP.out.trans k1).trans ((Keeps.refl (G.own m.r) _).setCell (p := ⟨G.g t, x, none⟩) (fun _ => ⟨t, htr, rfl⟩) (.int .u32 (j : Nat))))
      have hxi : (x : Int) < (m.n : Int) := by omega
      have hz0 : (((0 : Nat) : Int)) = 0 := rfl
      rw [hz0] at c1 c2 c3 c4 HN HK2
      have HAE := hid hae
      clear hcell hx hg hxm hrd h1 h2 k1 hz0 hf1 ht1 hx1
      subst hae
      go_wp2_with fail
      go_roundw
      case rel => exact ⟨k + 1, hlt, by go_num, HN.out, HK2.out⟩
      case measure => simp [intOf]; omega
    · have hki : ¬ (k : Int) < (l.length : Int) := by omega
      have HN := hid (show RxAt wr lo G (m.mv j f t) by
        have e : k = l.length := by omega
        have := HM.out
        rwa [e, List.take_length, HMV.out] at this)
      have HGr := hid ((HKP.out.block w.heap.size (by have := HS0.out; omega) (fun h1 => by have := HLT.out _ (Geo.own_all h1); omega)).trans HG1.out)
      have hlw : w.heap.size < wr.heap.size := (Array.getElem?_eq_some_iff.1 HGr.out).1
      clear hlt
      go_wp2_with (first
        | (refine wpList_store_row rfl 105 (.tmp 6) (.tmp 48) rfl w.heap.size (rmArr j f t) rfl rfl 105 _ HGr.out size_rmove rfl (by simp [Value.oneCell']) ?_)
        | fail)
      refine bodyPost_ret (results_cell_row (P := Try.prog) rfl _ _ w.heap.size 105 (rmArr j f t) (0, 0) _ rfl (setRow_heap wr w.heap.size _ _ _ _ HGr.out) Try.underlying105 rfl size_rmove) rfl ?_
      have hks : Keeps (fun i => i = w.heap.size) wr (wr.setRow w.heap.size (rmArr j f t)) := ⟨rfl, rfl, rfl, by simp, fun q hq hne => setRow_other _ _ _ _ hne⟩
      refine ⟨rfl, HN.out.keeps hks (fun q hq e => ?_), ?_⟩
      · rw [mv_r] at hq
        have := HLT.out q hq
        omega
      · have k0 : Keeps (G.own m.r) w w1 := Keeps.of_below HB1.out (fun i hi hge => absurd hi (by omega))
        refine (k0.trans HKP.out).trans' hks fun i hi e => ?_
        omega

end Go.Proofs.Ytnffmijanikjgaa

namespace Go.Proofs.Ytnffmijanikjgaa
open Go.RowKit Go.Shelf
set_option linter.unusedVariables false

/-- The nodes at which a row isn't free, of the first k. -/
def Mx.busyTo (m : Mx) (i k : Nat) : List Nat := (List.range k).filter fun q => m.c (16 * i + q) != 0
theorem busyTo_succ (m : Mx) (i k : Nat) : m.busyTo i (k + 1) = if m.c (16 * i + k) = 0 then m.busyTo i k else m.busyTo i k ++ [k] := by
  unfold Mx.busyTo
  rw [List.range_succ, List.filter_append]
  by_cases h : m.c (16 * i + k) = 0
  · rw [if_pos h]; simp [h]
  · rw [if_neg h]; simp [h]
theorem busyTo_len (m : Mx) (i k : Nat) : (m.busyTo i k).length ≤ k := Nat.le_trans (List.length_filter_le _ _) (by simp)
theorem busyTo_lt {m : Mx} {i k : Nat} : ∀ n ∈ m.busyTo i k, n < k := fun n hn => by
  unfold Mx.busyTo at hn
  exact List.mem_range.1 (List.mem_filter.1 hn).1

theorem busy_goes {m : Mx} (ho : One m) {t f : Nat} (hf : f < m.r) : m.fit t (m.busyTo f m.n) = m.goes t (m.row f) := by
  cases hg : m.goes t (m.row f) with
  | false =>
    obtain ⟨k, hk, h1, h2⟩ := (goes_ov ho hf).1 hg
    exact fit_false_of (n := k) (List.mem_filter.2 ⟨List.mem_range.2 hk, by simpa using h2⟩) h1
  | true =>
    unfold Mx.fit
    rw [List.all_eq_true]
    intro k hk
    have hk2 := List.mem_filter.1 hk
    have hkn := List.mem_range.1 hk2.1
    have hc : m.c (16 * f + k) ≠ 0 := by simpa using hk2.2
    apply Classical.byContradiction
    intro h
    have : m.goes t (m.row f) = false := (goes_ov ho hf).2 ⟨k, hkn, by simpa using h, hc⟩
    rw [hg] at this; cases this

section
variable {w : World} {ops : Array Oper} {rest : List Oper} {o : Oper} {a : Act} {Q : Exit → Act → World → Prop}
theorem rm_fresh (hgd : o.guard = none) (x y : Operand) (ho : o.op = .store 105 x y)
    (W : World) (cs : Array Value) (hx : a.eval x = .pointer (some ⟨W.heap.size, 0, none⟩)) (hy : a.eval y = .agg cs) (hs : cs.size = 3) (h1 : cs.all (·.oneCell') = true)
    (h : ∀ w' : World, w'.heap[W.heap.size]? = some (.cells cs 105 (0, 0)) → Below W.heap.size W w' → wpList Try.prog ops Q rest (a.put o.dst undef) w') :
    wpList Try.prog ops Q (o :: rest) a (W.alloc (.cells #[.int .u32 0, .int .i64 0, .int .i64 0] 105)) := by
  have e := heap_alloc_new W (.cells #[.int .u32 0, .int .i64 0, .int .i64 0] 105)
  refine wpList_store_row hgd _ x y ho W.heap.size cs hx hy _ _ e (by rw [size_rmove, hs]) (by rw [hs]; rfl) h1 ?_
  refine h _ (setRow_heap (W.alloc _) W.heap.size _ _ _ _ e) ?_
  exact ((Below.refl _ _).alloc (Nat.le_refl _) _).trans ⟨rfl, rfl, rfl, by simp, fun k hk => setRow_other _ _ _ _ (by omega)⟩
end

theorem runify_nil (w : World) :
    Calls Try.prog 27 #[.pointer none] w fun e w' => e = .returned (.tuple #[.pointer none, .slice none 0 0]) ∧ w = w' := by
  go_enter Try.func27, Try.ntmps27
  go_wp2_with fail
  go_ret2
  exact ⟨rfl, rfl⟩

set_option maxRecDepth 100000 in
set_option maxHeartbeats 16000000 in
theorem runify_any (w : World) (lo : Nat) (G : Geo) (m : Mx) (h : RxAt w lo G m) (ho : One m) :
    Calls Try.prog 27 #[.pointer (some ⟨G.x, 0, none⟩)] w fun e w' => ∃ (H : Geo) (v : Value), e = .returned (.tuple #[.pointer (some ⟨H.x, 0, none⟩), v]) ∧ w'.ownsRow w.heap.size 105 3 v m.unify.2.length (mvcs m.unify.2) ∧ RxAt w' w.heap.size H m.unify.1 ∧ Below w.heap.size w w' := by
  have hr8 := h.r8
  have hr1 := h.r1
  have hn16 := h.n16
  have hri : (m.r : Int) ≤ 8 := by omega
  have hni : (m.n : Int) ≤ 16 := by omega
  have HO := hid ho
  have HC32 := hid h.c32
  have HX := hid h
  clear h ho
  go_enter Try.func27, Try.ntmps27
  go_wp2_with fail
  refine (rcopy_any w lo G m HX.out).mono ?_
  rintro e w1 ⟨H, rfl, hx1, hb1⟩
  have HX1 := hid hx1
  have HB1 := hid hb1
  have hc01 := hx1.c0
  have hccr := hx1.ccr
  have hccm := hx1.ccm
  have hs1 := hb1.size
  clear hx1 hb1
  go_wp2_with fail
  go_loopw [5, 23] (fun v i wr => ∃ t : Nat, t ≤ m.r ∧ i = .int .i64 t ∧ wr.ownsRow w.heap.size 105 3 v (m.uAt t 0).2.length (mvcs (m.uAt t 0).2) ∧ RxAt wr w.heap.size H (m.uAt t 0).1 ∧ Below w.heap.size w wr) (fun _ i _ => m.r - (intOf i).toNat)
  case atStart => exact ⟨0, Nat.zero_le _, rfl, World.ownsRow_nil _ _ _ _, HX1.out, HB1.out⟩
  case round =>
    obtain ⟨t, ht, rfl, hv, hm, hB⟩ := hrel
    have HV := hid hv
    have HM := hid hm
    have HK := hid hB
    clear hv hm hB hc01
    by_cases hlt : t < m.r
    · have hti : (t : Int) < (m.r : Int) := by omega
      have ht8 : (t : Int) < 8 := by omega
      obtain ⟨wq, hwq⟩ : ∃ wq, wq = wr := ⟨_, rfl⟩
      subst hwq
      go_wp2
      go_loopw [5, 7] (fun v i wr => ∃ q : Nat, t + 1 + q ≤ m.r ∧ i = .int .i64 ((t + 1 + q : Nat) : Int) ∧ wr.ownsRow w.heap.size 105 3 v (m.uAt t q).2.length (mvcs (m.uAt t q).2) ∧ RxAt wr w.heap.size H (m.uAt t q).1 ∧ Below w.heap.size w wr) (fun _ i _ => m.r - (intOf i).toNat)
      case atStart => exact ⟨0, by omega, by go_num, HV.out, HM.out, HK.out⟩
      case round =>
        obtain ⟨q, hq, rfl, hv, hm, hB⟩ := hrel
        have HV := hid hv
        have HM := hid hm
        have HK := hid hB
        have hs0 := hB.size
        have hway := uAt_way hn16 HO.out t q (by omega)
        have hlen := (uAt_len hn16 HO.out t ht q (by omega)).resolve_right (by omega)
        have hr' := hway.kp.r
        have hn' := hway.kp.n
        have HO1 := hid hway.kp.one
        have hl2 : (m.uAt t q).2.length ≤ 8 * 16 * 8 + 8 * 16 := by
          have h1 : t * 16 * 8 ≤ 8 * 16 * 8 := Nat.mul_le_mul_right _ (Nat.mul_le_mul_right _ (by omega))
          have h2 : q * 16 ≤ 8 * 16 := Nat.mul_le_mul_right _ (by omega)
          omega
        have hc0 := hm.c0
        rw [hr'] at hc0
        clear hv hm hB hway hlen
        obtain ⟨f, hf⟩ : ∃ f, f = t + 1 + q := ⟨_, rfl⟩
        have HFQ := hid hf
        rw [← hf]
        by_cases hfr : t + 1 + q < m.r
        · have hfi : (f : Int) < (m.r : Int) := by omega
          have hfm : f < m.r := by omega
          have htf : t < f := by omega
          have HS := hid (show m.uAt t (q + 1) = uStep t (m.uAt t q) f by rw [uAt_succ, ← hf])
          generalize hst : m.uAt t q = st at *
          clear hst hf hfr
          obtain ⟨wz, hwz⟩ : ∃ wz, wz = wr := ⟨_, rfl⟩
          subst hwz
          have hfs : f < st.1.r := by omega
          have hts : t < st.1.r := by omega
          have hrow := HM.out.row f hfs
          obtain ⟨hcp1, hcp2⟩ := HM.out.cpn f hfs
          rw [hn'] at hrow hcp1
          go_wp2_with fail
          go_loopw [8, 45] (fun v i wr => ∃ k : Nat, k ≤ m.n ∧ i = .int .i64 k ∧ wr.ownsRow wz.heap.size 3 1 v (st.1.busyTo f k).length ((st.1.busyTo f k).map iv) ∧ Below wz.heap.size wz wr) (fun _ i _ => m.n - (intOf i).toNat)
          case atStart => exact ⟨0, Nat.zero_le _, rfl, World.ownsRow_nil _ _ _ _, Below.refl _ _⟩
          case round =>
            obtain ⟨k, hk, rfl, hv, hB⟩ := hrel
            have HVN := hid hv
            have HKN := hid hB
            have hsn := hB.size
            have HMN := hid (HM.out.below hB (Nat.le_refl _))
            have hbl := busyTo_len st.1 f k
            have HBS := hid (busyTo_succ st.1 f k)
            obtain ⟨an, cn, rfl, hcn1, hcn2⟩ := owns_slice hv
            clear hv hB hc0 hrow
            by_cases hkl : k < m.n
            · have hki : (k : Int) < (m.n : Int) := by omega
              have hcell := HMN.out.cell f k hfs (by omega)
              by_cases hz : st.1.c (16 * f + k) = 0
              · have HE := hid (show st.1.busyTo f (k + 1) = st.1.busyTo f k by rw [HBS.out, if_pos hz])
                rw [hz] at hcell
                generalize hbq : (st.1.busyTo f k).length = bq at *
                have HBQ := hid hbq
                clear hz hbq
                go_wp2_with fail
                go_roundw
                case rel => exact ⟨k + 1, hkl, by go_num, by rw [HE.out, HBQ.out]; exact HVN.out, HKN.out⟩
                case measure => simp [intOf]; omega
              · have HE := hid (show st.1.busyTo f (k + 1) = st.1.busyTo f k ++ [k] by rw [HBS.out, if_neg hz])
                obtain ⟨y, hy⟩ : ∃ y, st.1.c (16 * f + k) = y + 1 := ⟨st.1.c (16 * f + k) - 1, by omega⟩
                rw [hy] at hcell
                have hy1 : ((((y : Nat) : Int) + 1) == 0) = false := by simp; omega
                have hy2 : ((((y : Nat) : Int) + 1) != 0) = true := by simp; omega
                have hof := hid (owns_below HVN.out ((Below.refl _ _).alloc (Nat.le_refl _) (.cells #[.int .i64 (k : Nat)] 3)))
                have hsrc := hid (SrcC.lit wr #[.int .i64 (k : Nat)] 3 1 [iv k] rfl)
                generalize hbq : (st.1.busyTo f k).length = bq at *
                have HBQ := hid hbq
                clear hz hbq hy
                go_wp2_with (at_builtin; (refine appsw (by rfl) 34 3 (.tmp 52) (.tmp 54) rfl wz.heap.size 1 8 _ Try.underlying34 Try.infoInt rfl (by decide) _ _ bq 1 (bq + 1) _ _ rfl rfl hof.out hsrc.out rfl (by intro y hy; rw [List.mem_singleton] at hy; subst hy; rfl) rfl (by omega) (by omega) (by simp; omega) ?_); intro ad9 cp9 wA hoA hgA; have HOA := hid hoA; have HGA := hid hgA; clear hoA hgA)
                have hbA : Below wz.heap.size wz wA := (HKN.out.alloc (by omega) (.cells #[.int .i64 (k : Nat)] 3)).grown HGA.out (by simp; omega) (fun g hg => (World.ownsRow.lt HVN.out g hg).1)
                have HBA := hid hbA
                clear hbA
                go_wp2
                go_roundw
                case rel => exact ⟨k + 1, hkl, by go_num, by rw [HE.out, List.length_append, HBQ.out, List.map_append]; exact HOA.out, HBA.out⟩
                case measure => simp [intOf]; omega
            · have hke : k = m.n := by omega
              have HBG := hid (show st.1.fit t (st.1.busyTo f k) = st.1.goes t (st.1.row f) by rw [hke, ← hn']; exact busy_goes HO1.out hfs)
              have hki : ¬ (k : Int) < (m.n : Int) := by omega
              have HRN := hid (RdV.of_own HVN.out)
              have HBL := hid (show ∀ x ∈ st.1.busyTo f k, x < st.1.n from fun x hx => by have := busyTo_lt x hx; omega)
              have HVW := hid (owns_below HV.out HKN.out)
              clear hkl hke
              go_wp2_with fail
              refine (rgoes_any wr w.heap.size H t st.1 _ (st.1.busyTo f k) HMN.out hts HRN.out HBL.out).mono ?_
              rintro e w4 ⟨rfl, rfl⟩
              rw [HBG.out]
              cases hgo : st.1.goes t (st.1.row f) with
              | false =>
                have HU := hid (show m.uAt t (q + 1) = st by rw [HS.out]; unfold uStep; rw [hgo, if_neg (by simp)])
                clear hgo
                go_wp2
                go_roundw
                case rel => exact ⟨q + 1, by have := HFQ.out; omega, by rw [HFQ.out]; go_num, by rw [HU.out]; exact HVW.out, by rw [HU.out]; exact HMN.out, HK.out.trans (HKN.out.mono hs0)⟩
                case measure => simp [intOf]; omega
              | true =>
                have HU := hid (show m.uAt t (q + 1) = (st.1.shift f t (st.1.row f), st.2 ++ (st.1.row f).map fun j => (j, f, t)) by rw [HS.out]; unfold uStep; rw [hgo, if_pos rfl])
                have hcan := row_canGo HO1.out hfs hts (by omega) hgo (fun x hx => hx)
                have HCA := hid hcan
                have HND := hid (st.1.row_nodup f)
                have hrl := st.1.row_len f
                have hrl2 : (st.1.row f).length ≤ 16 := by omega
                have HBW := hid (HK.out.trans (HKN.out.mono hs0))
                have hsw := HBW.out.size
                clear hcan hgo hrl
                obtain ⟨wx, hwx⟩ : ∃ wx, wx = wr := ⟨_, rfl⟩
                subst hwx
                go_wp2_with fail
                refine (rrow_any wx w.heap.size H st.1 f HMN.out HO1.out hfs).mono ?_
                rintro e w6 ⟨v6, rfl, hv6, hb6⟩
                have HB6 := hid hb6
                have hs6 := hb6.size
                have HM6 := hid (HMN.out.below hb6 (Nat.le_refl _))
                have HR6 := hid (RdV.of_own hv6)
                have HV6 := hid (owns_below HVW.out hb6)
                obtain ⟨ad, cp, rfl, hcl, hcm⟩ := (RdV.of_own hv6).len
                rw [List.length_map] at hcl HR6
                have HFARJ := hid (show ∀ g o, ad = some ⟨g, o, none⟩ → wx.heap.size ≤ g from fun g o e => by
                  subst e
                  rcases hv6.2 with ⟨hv, _⟩ | ⟨g', cap', cur', hv, hbb, _⟩
                  · cases hv
                  · simp only [Value.slice.injEq, Option.some.injEq, Addr.mk.injEq] at hv
                    omega)
                have HLTW := hid (HMN.out.lt)
                have HG0 := hid (World.ownsRow.lt HVW.out)
                obtain ⟨av, cv, hvo, hcv1, hcv2⟩ := owns_slice HV6.out
                obtain ⟨vo, hvo2⟩ : ∃ vo : Value, vo = .slice av st.2.length cv := ⟨_, rfl⟩
                clear hb6 hv6
                rw [List.length_map]
                generalize hJ : st.1.row f = J at *
                have HJ := hid hJ
                clear hJ
                rw [hvo]
                rw [hvo] at HV6 HG0
                clear hvo
                rw [← hvo2] at HV6 HG0 ⊢
                have HVO2 := hid hvo2
                clear hvo2
                go_wp2_with fail
                go_loopw [5, 66] (fun v i wr => ∃ p : Nat, p ≤ J.length ∧ i = .int .i64 p ∧ wr.ownsRow w.heap.size 105 3 v (st.2.length + p) (mvcs (st.2 ++ (J.take p).map fun j => (j, f, t))) ∧ RxAt wr w.heap.size H (st.1.shift f t (J.take p)) ∧ Keeps (fun i => H.own m.r i ∨ vo.ownBlock = some i) w6 wr ∧ (∀ g, v.ownBlock = some g → vo.ownBlock = some g ∨ w6.heap.size ≤ g)) (fun _ i _ => J.length - (intOf i).toNat)
                case atStart => exact ⟨0, Nat.zero_le _, rfl, by simpa using HV6.out, HM6.out, Keeps.refl _ _, fun g hg => .inl hg⟩
                case round =>
                  obtain ⟨p, hp, rfl, hv, hm, hKP, hPL⟩ := hrel
                  have HV7 := hid hv
                  have HM7 := hid hm
                  have HKP := hid hKP
                  have HPL := hid hPL
                  have hs7 := hKP.size
                  obtain ⟨a7, c7, rfl, hc71, hc72⟩ := owns_slice hv
                  clear hv hm hKP hPL
                  by_cases hpl : p < J.length
                  · have hpi : (p : Int) < (J.length : Int) := by omega
                    obtain ⟨j, hj⟩ : ∃ j, J[p]? = some j := ⟨_, List.getElem?_eq_getElem hpl⟩
                    have HT := hid (take_snoc' J p j hj)
                    have hsplit : J = J.take p ++ J.drop p := (List.take_append_drop p J).symm
                    have hmid := shift_mid (J.take p) (m := st.1) (f := f) (t := t) (J2 := J.drop p) (by omega) HO1.out (by rw [← hsplit]; exact HND.out) (by rw [← hsplit]; exact HCA.out)
                    have HCJ := hid (show CanGo (st.1.shift f t (J.take p)) j f t from hmid.2 j (by rw [drop_cons' hj]; simp))
                    have HSH := hid (show st.1.shift f t (J.take (p + 1)) = (st.1.shift f t (J.take p)).mv j f t by rw [HT.out, shift_snoc])
                    have HMR := hid ((shift_r f t (J.take p) st.1).trans hr')
                    obtain ⟨-, g2, o2, hca, hg2, hcl2⟩ := HR6.out.at1 p (uv j) (by simp [hj])
                    have hcell : wr.cell? ⟨g2, o2 + p, none⟩ = some (.int .u32 (j : Nat)) := by
                      have hne : ¬ (H.own m.r g2 ∨ vo.ownBlock = some g2) := by
                        have h1 := HFARJ.out g2 o2 hca
                        rintro (e | e)
                        · have := HLTW.out g2 (Geo.own_all (by rw [hr']; exact e)); omega
                        · have := (HG0.out g2 e).2; omega
                      rw [HKP.out.cell (p := ⟨g2, o2 + p, none⟩) hg2 hne]
                      exact hcl2
                    have HCA2 := hid hca
                    have hj32 : j < 4294967296 := by
                      obtain ⟨x, hx⟩ := List.exists_mem_of_ne_nil _ HCJ.out.own
                      rw [← (own_mem.1 hx).2]
                      exact HM7.out.c32 _
                    have HJ32 := hid hj32
                    have hf8 : (f : Int) < 8 := by omega
                    clear hj hsplit hmid hg2 hcl2 hj32
                    subst hca
                    generalize hsk : st.1.shift f t (J.take p) = mk at *
                    clear hsk
                    obtain ⟨wy, hwy⟩ : ∃ wy, wy = wr := ⟨_, rfl⟩
                    subst hwy
                    go_wp2_with fail
                    refine (rmove_any wy w.heap.size H j f t mk HM7.out HCJ.out HJ32.out).mono ?_
                    rintro e w8 ⟨rfl, hx8, hk8⟩
                    rw [HMR.out] at hk8
                    have HX8 := hid hx8
                    have HK8 := hid hk8
                    have hs8 := hk8.size
                    have HV8 := hid (owns_by HV7.out fun g hg => hk8.block g (World.ownsRow.lt HV7.out g hg).2 (fun e => HM7.out.far HV7.out (by decide) g hg (Geo.own_all (by rw [HMR.out]; exact e))))
                    clear hx8 hk8
                    go_upto_region 23 with (first
                      | (refine rm_fresh rfl (.tmp 13) (.tmp 73) rfl w8 (rmArr j f t) rfl rfl rfl (by simp [Value.oneCell']) ?_; intro wo hgo hbo; have HGO := hid hgo; have HBO := hid hbo; clear hgo hbo)
                      | fail)
                    obtain ⟨gs, hgs⟩ : ∃ g, g = w8.heap.size := ⟨_, rfl⟩
                    rw [← hgs] at HGO
                    rw [← hgs]
                    have HGS := hid hgs
                    have hso := HBO.out.size
                    have HVO := hid (owns_below HV8.out HBO.out)
                    have HXO := hid (HX8.out.below HBO.out (Nat.le_refl _))
                    have hof := hid (owns_below HVO.out ((Below.refl _ _).alloc (Nat.le_refl _) (.cells (rmArr j f t) 105)))
                    have hsrc := hid (SrcC.lit wo (rmArr j f t) 105 1 (mvcs [(j, f, t)]) rfl)
                    have hxa := HXO.out.below ((Below.refl _ wo).alloc (Nat.le_refl _) (.cells (rmArr j f t) 105)) (Nat.le_refl _)
                    have HXA := hid hxa
                    generalize hsl : st.2.length = sl at *
                    have HSL := hid hsl
                    clear hgs hsl hxa
                    go_wp2_with (first
                      | (refine wpList_load_row rfl 105 (.tmp 13) rfl gs rfl 105 (rmArr j f t) (0, 0) _ HGO.out Try.underlying105 rfl size_rmove ?_)
                      | (at_builtin; (refine appsw2 (by rfl) 61 105 (.tmp 74) (.tmp 76) rfl w.heap.size 3 24 _ Try.underlying61 infoRMove rfl (by decide) _ _ (sl + p) 1 (sl + p + 1) _ _ rfl rfl hof.out hsrc.out rfl (mvcs_one _) rfl (by omega) (by omega) (by simp; omega) ?_); intro ad9 cp9 wA hoA hgA hpA; have HOA := hid hoA; have HGA := hid hgA; have HPA := hid hpA; clear hoA hgA hpA)
                      | fail)
                    have hxA : RxAt wA w.heap.size H (mk.mv j f t) := HXA.out.keeps (Keeps.of_grown HGA.out) (fun k hk e => HXA.out.far hof.out (by decide) k e hk)
                    have hkA : Keeps (fun i => H.own m.r i ∨ vo.ownBlock = some i) w6 wA := by
                      refine ((HKP.out.trans' HK8.out (fun i _ e => .inl e)).trans ((Keeps.of_below (S := fun i => H.own m.r i ∨ vo.ownBlock = some i) HBO.out (fun i hi hge => absurd hi (by omega))).alloc (.cells (rmArr j f t) 105))).trans' (Keeps.of_grown HGA.out) fun i h1 h2 => ?_
                      rcases HPL.out i h2 with h | h
                      · exact .inr h
                      · omega
                    have hpl2 : ∀ g, (Value.slice ad9 (sl + p + 1) cp9).ownBlock = some g → vo.ownBlock = some g ∨ w6.heap.size ≤ g := fun g hg => by
                      rcases HPA.out g hg with h | h
                      · exact HPL.out g h
                      · right; rw [World.size_alloc] at h; omega
                    have HXA2 := hid hxA
                    have HKA := hid hkA
                    have HPB := hid hpl2
                    clear hxA hkA hpl2
                    go_wp2
                    go_roundw
                    case rel => exact ⟨p + 1, hpl, by go_num, by rw [HT.out, List.map_append, ← List.append_assoc, mvcs_append, HSL.out, ← Nat.add_assoc]; exact HOA.out, by rw [HSH.out]; exact HXA2.out, HKA.out, HPB.out⟩
                    case measure => simp [intOf]; omega
                  · have hpe : p = J.length := by omega
                    have HE := hid (show J.take p = J by rw [hpe]; exact List.take_length)
                    have hpi : ¬ (p : Int) < (J.length : Int) := by omega
                    have HPE := hid hpe
                    clear hpl hpe
                    go_wp2
                    go_roundw
                    case rel => exact ⟨q + 1, by have := HFQ.out; omega, by rw [HFQ.out]; go_num, by
                        rw [HU.out]
                        show World.ownsRow _ _ _ _ _ (st.2 ++ _).length (mvcs (st.2 ++ _))
                        have := HV7.out
                        rw [HE.out] at this
                        rw [List.length_append, List.length_map, ← HPE.out]; exact this, by
                        rw [HU.out]
                        have := HM7.out
                        rw [HE.out] at this
                        exact this, HBW.out.trans ((HB6.out.mono hsw).trans (HKP.out.below (by omega) (fun i hi => by
                          rcases hi with e | e
                          · exact HM6.out.low i (Geo.own_all (by rw [hr']; exact e))
                          · exact (HG0.out i e).1)))⟩
                    case measure => simp [intOf]; omega
        · have hfe : q = m.r - (t + 1) := by omega
          have HE := hid (show m.uAt t q = m.uAt (t + 1) 0 by rw [hfe, uAt_row m t hlt])
          have hki : ¬ (f : Int) < (m.r : Int) := by omega
          clear hfr hfe hf
          go_wp2
          go_roundw
          case rel => exact ⟨t + 1, hlt, by go_num, by rw [← HE.out]; exact HV.out, by rw [← HE.out]; exact HM.out, HK.out⟩
          case measure => simp [intOf]; omega
    · have hte : t = m.r := by omega
      have HE := hid (show m.uAt t 0 = m.unify by rw [hte, uAt_last])
      have hki : ¬ (t : Int) < (m.r : Int) := by omega
      clear hte hlt
      go_wp2
      go_ret2
      exact ⟨_, _, rfl, by rw [← HE.out]; exact HV.out, by rw [← HE.out]; exact HM.out, HK.out⟩

end Go.Proofs.Ytnffmijanikjgaa

namespace Go.Proofs.Ytnffmijanikjgaa
open Go.RowKit Go.Shelf
set_option linter.unusedVariables false

theorem goes_fit (m : Mx) (t j : Nat) : m.fit t (m.nodes j) = m.goes t [j] := by
  unfold Mx.fit Mx.goes
  simp

/-- What the downward search knows behind the rows from p on. -/
def Least13 (m : Mx) (j f p : Nat) (z : Int) : Prop :=
  (z = -1 ∧ ∀ i, p ≤ i → i < f → m.goes i [j] = false) ∨ ∃ u : Nat, z = u ∧ p ≤ u ∧ u < f ∧ m.goes u [j] = true ∧ ∀ i, p ≤ i → i < u → m.goes i [j] = false

theorem repack_nil' (w : World) :
    Calls Try.prog 29 #[.pointer none] w fun e w' => e = .returned (.tuple #[.pointer none, .slice none 0 0]) ∧ w = w' := by
  go_enter Try.func29, Try.ntmps29
  go_wp2_with fail
  go_ret2
  exact ⟨rfl, rfl⟩

set_option maxRecDepth 100000 in
set_option maxHeartbeats 16000000 in
theorem rrepack_any (w : World) (lo : Nat) (G : Geo) (m : Mx) (h : RxAt w lo G m) (ho : One m) :
    Calls Try.prog 29 #[.pointer (some ⟨G.x, 0, none⟩)] w fun e w' => ∃ (H : Geo) (v : Value), e = .returned (.tuple #[.pointer (some ⟨H.x, 0, none⟩), v]) ∧ w'.ownsRow w.heap.size 105 3 v m.repack.2.length (mvcs m.repack.2) ∧ RxAt w' w.heap.size H m.repack.1 ∧ Below w.heap.size w w' := by
  have hr8 := h.r8
  have hr1 := h.r1
  have hn16 := h.n16
  have hri : (m.r : Int) ≤ 8 := by omega
  have hni : (m.n : Int) ≤ 16 := by omega
  have HO := hid ho
  have HX := hid h
  clear h ho
  go_enter Try.func29, Try.ntmps29
  go_wp2_with fail
  refine (rcopy_any w lo G m HX.out).mono ?_
  rintro e w1 ⟨H, rfl, hx1, hb1⟩
  have HX1 := hid hx1
  have HB1 := hid hb1
  have hc01 := hx1.c0
  have hs1 := hb1.size
  clear hx1 hb1
  go_wp2_with fail
  go_loopw [5, 24] (fun v i wr => ∃ f : Nat, f ≤ m.r ∧ i = .int .i64 f ∧ wr.ownsRow w.heap.size 105 3 v (m.rTo f).2.length (mvcs (m.rTo f).2) ∧ RxAt wr w.heap.size H (m.rTo f).1 ∧ Below w.heap.size w wr) (fun _ i _ => m.r - (intOf i).toNat)
  case atStart => exact ⟨0, Nat.zero_le _, rfl, World.ownsRow_nil _ _ _ _, HX1.out, HB1.out⟩
  case round =>
    obtain ⟨f, hf, rfl, hv, hm, hB⟩ := hrel
    have HV := hid hv
    have HM := hid hm
    have HK := hid hB
    have hs0 := hB.size
    clear hv hm hB hc01
    by_cases hlt : f < m.r
    · have hfi : (f : Int) < (m.r : Int) := by omega
      have hf8 : (f : Int) < 8 := by omega
      obtain ⟨wq, hwq⟩ : ∃ wq, wq = wr := ⟨_, rfl⟩
      subst hwq
      obtain ⟨vo, hvo⟩ : ∃ vo, vo = u5 := ⟨_, rfl⟩
      subst hvo
      have hway0 := rTo_way hn16 HO.out f hf
      have hr0 := hway0.kp.r
      have hfs : f < (m.rTo f).1.r := by rw [hway0.kp.r]; exact hlt
      have hrl := (m.rTo f).1.row_len f
      rw [hway0.kp.n] at hrl
      have HO0 := hid hway0.kp.one
      clear hway0
      go_wp2_with fail
      refine (rrow_any wq w.heap.size H (m.rTo f).1 f HM.out HO0.out hfs).mono ?_
      rintro e w3 ⟨v3, rfl, hv3, hb3⟩
      have HB3 := hid hb3
      have hs3 := hb3.size
      have HM3 := hid (HM.out.below hb3 (Nat.le_refl _))
      have HR3 := hid (RdV.of_own hv3)
      have HV3 := hid (owns_below HV.out hb3)
      have HG0 := hid (World.ownsRow.lt HV.out)
      have HLTW := hid HM.out.lt
      obtain ⟨ad, cp, rfl, hcl, hcm⟩ := (RdV.of_own hv3).len
      rw [List.length_map] at hcl HR3
      have HNG := hid (show ∀ g o, ad = some ⟨g, o, none⟩ → wq.heap.size ≤ g from fun g o e => by
        subst e
        rcases hv3.2 with ⟨hv, _⟩ | ⟨g', cap', cur', hv, hbb, _⟩
        · cases hv
        · simp only [Value.slice.injEq, Option.some.injEq, Addr.mk.injEq] at hv
          omega)
      clear hb3 hv3
      rw [List.length_map]
      generalize hJ : (m.rTo f).1.row f = J at *
      have HJ := hid hJ
      clear hJ
      go_wp2_with fail
      go_loopw [5, 31] (fun v i wr => ∃ q : Nat, q ≤ J.length ∧ i = .int .i64 q ∧ wr.ownsRow w.heap.size 105 3 v (m.rAt f q).2.length (mvcs (m.rAt f q).2) ∧ RxAt wr w.heap.size H (m.rAt f q).1 ∧ Keeps (fun i => H.own m.r i ∨ vo.ownBlock = some i) w3 wr ∧ (∀ g, v.ownBlock = some g → vo.ownBlock = some g ∨ w3.heap.size ≤ g)) (fun _ i _ => J.length - (intOf i).toNat)
      case atStart => exact ⟨0, Nat.zero_le _, rfl, by rw [rAt_zero]; exact HV3.out, by rw [rAt_zero]; exact HM3.out, Keeps.refl _ _, fun g hg => .inl hg⟩
      case round =>
        obtain ⟨q, hq, rfl, hv, hm, hKP, hPL⟩ := hrel
        have HV5 := hid hv
        have HM5 := hid hm
        have HKP := hid hKP
        have HPL := hid hPL
        have hs5 := hKP.size
        have hway := rAt_way hn16 HO.out f q hlt
        have hr' := hway.1.kp.r
        have hn' := hway.1.kp.n
        have HO1 := hid hway.1.kp.one
        have hl1 := rTo_len hn16 HO.out f hf
        have hl2 := rJobs_len f (((m.rTo f).1.row f).take q) (m.rTo f)
        have hl3 : (m.rAt f q).2.length ≤ 8 * 16 + 16 := by
          rw [HJ.out, List.length_take] at hl2
          have h2 : f * 16 ≤ 8 * 16 := Nat.mul_le_mul_right _ (by omega)
          unfold Mx.rAt
          rw [HJ.out]
          omega
        obtain ⟨av, cv, rfl, hcv1, hcv2⟩ := owns_slice hv
        clear hv hm hKP hPL hl1 hl2
        by_cases hql : q < J.length
        · obtain ⟨j, hj⟩ : ∃ x, J[q]? = some x := ⟨_, List.getElem?_eq_getElem hql⟩
          have hqi : (q : Int) < (J.length : Int) := by omega
          have hjm := hway.2 j (by rw [HJ.out]; exact hj)
          have HS := hid (rAt_succ m f q j (by rw [HJ.out]; exact hj))
          obtain ⟨-, g2, o2, hca, hg2, hcl2⟩ := HR3.out.at1 q (uv j) (by simp [hj])
          have hcell : wr.cell? ⟨g2, o2 + q, none⟩ = some (.int .u32 (j : Nat)) := by
            have hne : ¬ (H.own m.r g2 ∨ vo.ownBlock = some g2) := by
              have h1 := HNG.out g2 o2 hca
              rintro (e | e)
              · have := HLTW.out g2 (Geo.own_all (by rw [hr0]; exact e)); omega
              · have := (HG0.out g2 e).2; omega
            rw [HKP.out.cell (p := ⟨g2, o2 + q, none⟩) hg2 hne]
            exact hcl2
          have HCA := hid hca
          subst hca
          clear hj hg2 hcl2 hway
          generalize hst : m.rAt f q = st at *
          clear hst
          have HJM := hid hjm
          have hfs2 : f < st.1.r := by omega
          have hwj := (HO1.out.row_where hfs2 hjm).1
          have HWJ := hid hwj
          have HND := hid (Mx.nodes_of hwj)
          have hj32 : j < 4294967296 := by
            obtain ⟨k, _, _, h3⟩ := Mx.row_mem.1 hjm
            rw [← h3]; exact HM5.out.c32 _
          have HJ32 := hid hj32
          clear hjm hwj hj32
          obtain ⟨wz, hwz⟩ : ∃ wz, wz = wr := ⟨_, rfl⟩
          subst hwz
          go_wp2_with fail
          refine (rof_any wz w.heap.size H st.1 j HM5.out).mono ?_
          rintro e w6 ⟨v6, rfl, hv6, hb6⟩
          have HR6 := hid (RdV.of_own hv6)
          have HB6 := hid hb6
          have hs6 := hb6.size
          have HM6 := hid (HM5.out.below hb6 (Nat.le_refl _))
          have HV6 := hid (owns_below HV5.out hb6)
          have HNL := hid (fun x (hx : x ∈ st.1.nodes j) => nodes_lt (m := st.1) (j := j) x hx)
          clear hb6 hv6
          go_wp2_with fail
          go_loop [12, 13] (fun tv i => ∃ (p : Nat) (z : Int), p ≤ f ∧ i = .int .i64 ((p : Int) - 1) ∧ tv = .int .i64 z ∧ Least13 st.1 j f p z) (fun _ i => (intOf i + 1).toNat)
          case atStart => exact ⟨f, -1, Nat.le_refl _, rfl, rfl, .inl ⟨rfl, fun i h1 h2 => by omega⟩⟩
          case round =>
            obtain ⟨p, z, hp, rfl, rfl, hle⟩ := hrel
            have HLE := hid hle
            clear hle
            rcases p with _ | p'
            · -- all were asked
              rw [show (((0 : Nat) : Int) - 1) = -1 from rfl]
              rcases HLE.out with ⟨hz, hall⟩ | ⟨u, hz, _, huf, hgo, hmin⟩
              · have HL := hid (show st.1.led f j = (st.1, []) by unfold Mx.led; rw [ahead_of_none (fun i hi => hall i (by omega) hi)])
                have HS2 := hid (show m.rAt f (q + 1) = st by rw [HS.out, rJob_led, HL.out]; simp)
                subst hz
                clear hall
                go_wp2
                go_roundw
                case rel => exact ⟨q + 1, hql, by go_num, by rw [HS2.out]; exact HV6.out, by rw [HS2.out]; exact HM6.out, HKP.out.trans (Keeps.of_below HB6.out (fun i h1 h2 => absurd h1 (by omega))), HPL.out⟩
                case measure => simp [intOf]; omega
              · have HL := hid (show st.1.led f j = (st.1.mv j f u, [(j, f, u)]) by unfold Mx.led; rw [ahead_of huf hgo (fun i hi => hmin i (by omega) hi)])
                have HS2 := hid (show m.rAt f (q + 1) = (st.1.mv j f u, st.2 ++ [(j, f, u)]) by rw [HS.out, rJob_led, HL.out])
                have HCJ := hid (row_canGo HO1.out hfs2 (by omega) (show f ≠ u by omega) hgo (fun x hx => by rw [List.mem_singleton] at hx; rw [hx]; exact HJM.out) j (by simp))
                have hui : (0 : Int) ≤ (u : Int) := by omega
                have hu8 : (u : Int) < 8 := by omega
                subst hz
                clear hmin hgo
                go_wp2_with fail
                refine (rmove_any w6 w.heap.size H j f u st.1 HM6.out HCJ.out HJ32.out).mono ?_
                rintro e w8 ⟨rfl, hx8, hk8⟩
                rw [hr'] at hk8
                have HX8 := hid hx8
                have HK8 := hid hk8
                have hs8 := hk8.size
                have HV8 := hid (owns_by HV6.out fun g hg => hk8.block g (World.ownsRow.lt HV6.out g hg).2 (fun e => HM6.out.far HV6.out (by decide) g hg (Geo.own_all (by rw [hr']; exact e))))
                clear hx8 hk8
                go_upto_region 20 with (first
                  | (refine rm_fresh rfl (.tmp 14) (.tmp 58) rfl w8 (rmArr j f u) rfl rfl rfl (by simp [Value.oneCell']) ?_; intro wo hgo hbo; have HGO := hid hgo; have HBO := hid hbo; clear hgo hbo)
                  | fail)
                obtain ⟨gs, hgs⟩ : ∃ g, g = w8.heap.size := ⟨_, rfl⟩
                rw [← hgs] at HGO
                rw [← hgs]
                have HGS := hid hgs
                have hso := HBO.out.size
                have HVO := hid (owns_below HV8.out HBO.out)
                have HXO := hid (HX8.out.below HBO.out (Nat.le_refl _))
                have hof := hid (owns_below HVO.out ((Below.refl _ _).alloc (Nat.le_refl _) (.cells (rmArr j f u) 105)))
                have hsrc := hid (SrcC.lit wo (rmArr j f u) 105 1 (mvcs [(j, f, u)]) rfl)
                have hxa := HXO.out.below ((Below.refl _ wo).alloc (Nat.le_refl _) (.cells (rmArr j f u) 105)) (Nat.le_refl _)
                have HXA := hid hxa
                have HBA := hid HK.out.size
                generalize hsl : st.2.length = sl at *
                have HSL := hid hsl
                clear hgs hsl hxa
                go_wp2_with (first
                  | (refine wpList_load_row rfl 105 (.tmp 14) rfl gs rfl 105 (rmArr j f u) (0, 0) _ HGO.out Try.underlying105 rfl size_rmove ?_)
                  | (at_builtin; (refine appsw2 (by rfl) 61 105 (.tmp 59) (.tmp 61) rfl w.heap.size 3 24 _ Try.underlying61 infoRMove rfl (by decide) _ _ sl 1 (sl + 1) _ _ rfl rfl hof.out hsrc.out rfl (mvcs_one _) rfl (by omega) (by omega) (by simp; omega) ?_); intro ad9 cp9 wA hoA hgA hpA; have HOA := hid hoA; have HGA := hid hgA; have HPA := hid hpA; clear hoA hgA hpA)
                  | fail)
                have hxA : RxAt wA w.heap.size H (st.1.mv j f u) := HXA.out.keeps (Keeps.of_grown HGA.out) (fun k hk e => HXA.out.far hof.out (by decide) k e hk)
                have hkA : Keeps (fun i => H.own m.r i ∨ vo.ownBlock = some i) w3 wA := by
                  refine ((HKP.out.trans ((Keeps.of_below (S := fun i => H.own m.r i ∨ vo.ownBlock = some i) HB6.out (fun i hi hge => absurd hi (by omega))).trans' HK8.out (fun i _ e => .inl e))).trans ((Keeps.of_below (S := fun i => H.own m.r i ∨ vo.ownBlock = some i) HBO.out (fun i hi hge => absurd hi (by omega))).alloc (.cells (rmArr j f u) 105))).trans' (Keeps.of_grown HGA.out) fun i h1 h2 => ?_
                  rcases HPL.out i h2 with h | h
                  · exact .inr h
                  · omega
                have hpl2 : ∀ g, (Value.slice ad9 (sl + 1) cp9).ownBlock = some g → vo.ownBlock = some g ∨ w3.heap.size ≤ g := fun g hg => by
                  rcases HPA.out g hg with h | h
                  · exact HPL.out g h
                  · right; rw [World.size_alloc] at h; omega
                have HXA2 := hid hxA
                have HKA := hid hkA
                have HPB := hid hpl2
                clear hxA hkA hpl2
                go_wp2
                go_roundw
                case rel => exact ⟨q + 1, hql, by go_num, by rw [HS2.out]; show World.ownsRow _ _ _ _ _ (st.2 ++ _).length (mvcs (st.2 ++ _)); rw [List.length_append, HSL.out, mvcs_append]; exact HOA.out, by rw [HS2.out]; exact HXA2.out, HKA.out, HPB.out⟩
                case measure => simp [intOf]; omega
            · rw [show (((p' + 1 : Nat) : Int) - 1) = (p' : Int) by omega]
              have hp0 : (0 : Int) ≤ (p' : Int) := by omega
              have hp8 : (p' : Int) < 8 := by omega
              have hpr : p' < st.1.r := by omega
              go_wp2_with fail
              refine (rgoes_any w6 w.heap.size H p' st.1 v6 (st.1.nodes j) HM6.out hpr HR6.out HNL.out).mono ?_
              rintro e w7 ⟨rfl, rfl⟩
              rw [goes_fit]
              cases hgo : st.1.goes p' [j] with
              | true =>
                have HN := hid (show Least13 st.1 j f p' (p' : Int) from .inr ⟨p', rfl, Nat.le_refl _, by omega, hgo, fun i h1 h2 => by omega⟩)
                clear hgo
                go_wp2
                go_round
                case rel => exact ⟨p', p', by omega, rfl, rfl, HN.out⟩
                case measure => simp [intOf]
              | false =>
                have HN := hid (show Least13 st.1 j f p' z by
                  rcases HLE.out with ⟨hz, hall⟩ | ⟨u, hz, h1, h2, h3, h4⟩
                  · exact .inl ⟨hz, fun i h1 h2 => by
                      by_cases e : i = p'
                      · rw [e]; exact hgo
                      · exact hall i (by omega) h2⟩
                  · exact .inr ⟨u, hz, by omega, h2, h3, fun i h5 h6 => by
                      by_cases e : i = p'
                      · rw [e]; exact hgo
                      · exact h4 i (by omega) h6⟩)
                clear hgo
                go_wp2
                go_round
                case rel => exact ⟨p', z, by omega, rfl, rfl, HN.out⟩
                case measure => simp [intOf]
        · have e : q = J.length := by omega
          have HE := hid (show m.rAt f q = m.rTo (f + 1) by rw [e, ← HJ.out, rAt_row])
          have hqi : ¬ (q : Int) < (J.length : Int) := by omega
          clear hql e hway
          go_wp2
          go_roundw
          case rel => exact ⟨f + 1, hlt, by go_num, by rw [← HE.out]; exact HV5.out, by rw [← HE.out]; exact HM5.out, HK.out.trans ((HB3.out.mono hs0).trans (HKP.out.below (by omega) (fun i hi => by
            rcases hi with e | e
            · exact HM.out.low i (Geo.own_all (by rw [hr0]; exact e))
            · exact (HG0.out i e).1)))⟩
          case measure => simp [intOf]; omega
    · have e : f = m.r := by omega
      have HE := hid (show m.rTo f = m.repack by rw [e, rTo_last])
      have hki : ¬ (f : Int) < (m.r : Int) := by omega
      clear e hlt
      go_wp2
      go_ret2
      exact ⟨_, _, rfl, by rw [← HE.out]; exact HV.out, by rw [← HE.out]; exact HM.out, HK.out⟩

end Go.Proofs.Ytnffmijanikjgaa

namespace Go.Proofs.Ytnffmijanikjgaa
open Go.RowKit Go.Shelf
set_option linter.unusedVariables false

theorem below_dn {B : Nat} {w w' : World} (h : Below B w w') (n : Nat) : Below B w (w'.drewN n) := ⟨h.os, h.tape, h.output, h.size, h.block⟩

theorem mv3_at {l : List (Nat × Nat × Nat)} {k j f t : Nat} (h : l[k]? = some (j, f, t)) (i : Nat) (v : Value) (hv : (mvc (j, f, t))[i]? = some v) : (mvcs l)[k * 3 + i]? = some v := by
  obtain ⟨hlt, hx⟩ := List.getElem?_eq_some_iff.1 h
  have hs : l = l.take k ++ (j, f, t) :: l.drop (k + 1) := by
    rw [← drop_cons' h, List.take_append_drop]
  have hi : i < 3 := by
    have := (List.getElem?_eq_some_iff.1 hv).1
    exact this
  rw [hs, mvcs_append, List.getElem?_append_right (by rw [mvcs_len, List.length_take]; omega), mvcs_len, List.length_take, show k * 3 + i - min k l.length * 3 = i by rw [Nat.min_eq_left (by omega)]; omega]
  show (mvc (j, f, t) ++ mvcs (l.drop (k + 1)))[i]? = some v
  rw [List.getElem?_append_left (by show i < 3; exact hi)]
  exact hv

/-- A move's three cells. -/
theorem owns_mv {w : World} {base : Nat} {e : TypeId} {a : Option Addr} {n c : Nat} {l : List (Nat × Nat × Nat)} {k j f t : Nat} (h : w.ownsRow base e 3 (.slice a n c) n (mvcs l)) (hk : l[k]? = some (j, f, t)) (hn : n = l.length) : ∃ g, a = some ⟨g, 0, none⟩ ∧ w.cell? ⟨g, k * 3, none⟩ = some (.int .u32 (j : Nat)) ∧ w.cell? ⟨g, k * 3 + 1, none⟩ = some (.int .i64 (f : Nat)) ∧ w.cell? ⟨g, k * 3 + 2, none⟩ = some (.int .i64 (t : Nat)) := by
  have hlt : k < l.length := (List.getElem?_eq_some_iff.1 hk).1
  rcases owns_shape h with ⟨_, h0⟩ | ⟨g, cc, hv, _⟩
  · omega
  · simp only [Value.slice.injEq] at hv
    obtain ⟨rfl, -, rfl⟩ := hv
    have hc : ∀ i v, (mvc (j, f, t))[i]? = some v → w.cell? ⟨g, k * 3 + i, none⟩ = some v := fun i v hv => by
      have := World.ownsRow.cells h (g := g) rfl _ v (mv3_at hk i v hv)
      rwa [Addr.add_lit, Nat.zero_add] at this
    exact ⟨g, rfl, hc 0 _ rfl, hc 1 _ rfl, hc 2 _ rfl⟩

set_option maxRecDepth 100000 in
set_option maxHeartbeats 8000000 in
theorem same13_any (w : World) (b lo base base' : Nat) (G : Geo) (m : Mx) (va vb : Value) (L : List (Nat × Nat × Nat)) (hm : MxAt w b m) (hx : RxAt w lo G m) (ha : w.ownsRow base 76 3 va L.length (mvcs L)) (hb : w.ownsRow base' 105 3 vb L.length (mvcs L)) :
    Calls Try.prog 31 #[.pointer (some ⟨b, 0, none⟩), va, .pointer (some ⟨G.x, 0, none⟩), vb] w fun e w' => e = .returned (.bool true) ∧ Below w.heap.size w w' := by
  obtain ⟨a1, c1, rfl, h11, h12⟩ := owns_slice ha
  obtain ⟨a2, c2, rfl, h21, h22⟩ := owns_slice hb
  have HM := hid hm
  have HX := hid hx
  have HA := hid ha
  have HB := hid hb
  have hr8 := hm.r8
  have hn16 := hm.n16
  have hri : (m.r : Int) ≤ 8 := by omega
  have hni : (m.n : Int) ≤ 16 := by omega
  have hccr := hx.ccr
  have hccm := hx.ccm
  have hcur := hx.cur
  have hcum := hx.cum
  clear hm hx ha hb
  go_enter Try.func31, Try.ntmps31
  go_wp2_with fail
  go_loopw [22] (fun i wr => ∃ k : Nat, k ≤ L.length ∧ i = .int .i64 k ∧ Below w.heap.size w wr) (fun i _ => L.length - (intOf i).toNat)
  case atStart => exact ⟨0, Nat.zero_le _, rfl, Below.refl _ _⟩
  case round =>
    obtain ⟨k, hk, rfl, hB⟩ := hrel
    have HK := hid hB
    have hs0 := hB.size
    by_cases hlt : k < L.length
    · have hki : (k : Int) < (L.length : Int) := by omega
      obtain ⟨⟨j, f, t⟩, hj⟩ : ∃ x, L[k]? = some x := ⟨_, List.getElem?_eq_getElem hlt⟩
      obtain ⟨g1, rfl, p0, p1, p2⟩ := owns_mv (owns_below HA.out hB) hj rfl
      obtain ⟨g2, rfl, q0, q1, q2⟩ := owns_mv (owns_below HB.out hB) hj rfl
      clear hB hj
      go_wp2_with fail
      go_quiet (fail)
      go_wp2
      go_roundw
      case rel => exact ⟨k + 1, hlt, by go_num, below_dn HK.out _⟩
      case measure => simp [intOf]; omega
    · have hki : ¬ (k : Int) < (L.length : Int) := by omega
      have HX2 := hid (HX.out.below hB (Nat.le_refl _))
      have HM2 := hid (HM.out.below hB HM.out.lt)
      have hc0 := HX2.out.c0
      have hc1 := HX2.out.c1
      clear hB hlt
      go_wp2_with fail
      go_loop [40] (fun i => ∃ x : Nat, x ≤ m.r ∧ i = .int .i64 x ∧ Hid True) (fun i => m.r - (intOf i).toNat)
      case atStart => exact ⟨0, Nat.zero_le _, rfl, hid trivial⟩
      case round =>
        obtain ⟨x, hx, rfl, -⟩ := hrel
        by_cases hxr : x < m.r
        · have hxi : (x : Int) < (m.r : Int) := by omega
          have hrow := HX2.out.row x hxr
          obtain ⟨hcp1, hcp2⟩ := HX2.out.cpn x hxr
          go_wp2_with fail
          go_loop [51] (fun i => ∃ y : Nat, y ≤ m.n ∧ i = .int .i64 y ∧ Hid True) (fun i => m.n - (intOf i).toNat)
          case atStart => exact ⟨0, Nat.zero_le _, rfl, hid trivial⟩
          case round =>
            obtain ⟨y, hy, rfl, -⟩ := hrel
            by_cases hyn : y < m.n
            · have hyi : (y : Int) < (m.n : Int) := by omega
              have hcell := HX2.out.cell x y hxr hyn
              have HP := hid (at_yes wr b m x y HM2.out hxr hyn)
              generalize m.c (16 * x + y) = cx at *
              go_wp2_with fail
              refine HP.out.mono ?_
              rintro e w' ⟨rfl, rfl⟩
              go_wp2_with fail
              go_round
              case rel => exact ⟨y + 1, hyn, by go_num, hid trivial⟩
              case measure => simp [intOf]; omega
            · have hyi : ¬ (y : Int) < (m.n : Int) := by omega
              clear hyn
              go_wp2_with fail
              go_round
              case rel => exact ⟨x + 1, hxr, by go_num, hid trivial⟩
              case measure => simp [intOf]; omega
        · have hxi : ¬ (x : Int) < (m.r : Int) := by omega
          clear hxr
          go_wp2_with fail
          go_loop [69] (fun i => ∃ y : Nat, y ≤ m.n ∧ i = .int .i64 y ∧ Hid True) (fun i => m.n - (intOf i).toNat)
          case atStart => exact ⟨0, Nat.zero_le _, rfl, hid trivial⟩
          case round =>
            obtain ⟨y, hy, rfl, -⟩ := hrel
            by_cases hyn : y < m.n
            · have hyi : (y : Int) < (m.n : Int) := by omega
              have hcell := HX2.out.up y hyn
              have HP := hid (isup_yes wr b m y HM2.out hyn)
              generalize (!m.d y) = ux at *
              go_wp2_with fail
              refine HP.out.mono ?_
              rintro e w' ⟨rfl, rfl⟩
              go_wp2_with fail
              go_round
              case rel => exact ⟨y + 1, hyn, by go_num, hid trivial⟩
              case measure => simp [intOf]; omega
            · have hyi : ¬ (y : Int) < (m.n : Int) := by omega
              clear hyn
              go_wp2
              go_ret
              exact ⟨rfl, HK.out⟩

end Go.Proofs.Ytnffmijanikjgaa
