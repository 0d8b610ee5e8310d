/-
  Victim: where a job is among Cands; below, leaving, Of.
-/
import Derived.Test.YtdongghjchnpbaaVcD
import Derived.Test.YtdongghjchnpbaaVcS
namespace Go.Proofs.Ytdongghjchnpbaa
open Go.RowKit Go.Shelf
set_option linter.unusedVariables false
set_option linter.unusedSimpArgs false

theorem firstC_of {l : List Cd} {z k : Nat} {x : Cd} (hx : l[k]? = some x) (he : x.1 = z) (hall : ∀ (j : Nat) (y : Cd), j < k → l[j]? = some y → y.1 ≠ z) : firstC l z = some x := by
  unfold firstC
  rw [List.find?_eq_some_iff_getElem]
  obtain ⟨h1, h2⟩ := List.getElem?_eq_some_iff.1 hx
  refine ⟨by simpa using he, k, h1, h2, fun j hj => ?_⟩
  have := hall j (l[j]'(by omega)) hj (List.getElem?_eq_getElem (by omega))
  simpa using this
theorem firstC_none {l : List Cd} {z : Nat} (hall : ∀ (j : Nat) (y : Cd), l[j]? = some y → y.1 ≠ z) : firstC l z = none := by
  unfold firstC
  rw [List.find?_eq_none]
  intro x hx
  obtain ⟨j, hj⟩ := List.mem_iff_getElem?.1 hx
  have := hall j x hj
  simpa using this

set_option maxRecDepth 100000 in
set_option maxHeartbeats 1000000 in
theorem isC_any (w : World) (x : Cd) (z g : Nat) (hg : w.cell? ⟨g, 0, none⟩ = some (.int .u32 (z : Nat))) :
    Calls Try.prog 78 #[.agg #[.int .u32 (x.1 : Nat), .int .u8 (x.2 : Nat)], .pointer (some ⟨g, 0, none⟩)] w fun e w' => e = .returned (.bool (decide (x.1 = z))) ∧ Below w.heap.size w w' := by
  obtain ⟨x0, x1⟩ := x
  dsimp only
  have hlt : g < w.heap.size := World.block_lt_of_cell? _ _ hg
  have hd : decide ((x0 : Int) = (z : Int)) = decide (x0 = z) := by
    by_cases e : x0 = z
    · rw [decide_eq_true e, decide_eq_true (by omega)]
    · rw [decide_eq_false e, decide_eq_false (by omega)]
  have hbe : ((x0 : Int) == (z : Int)) = decide (x0 = z) := by rw [← hd]; rfl
  obtain ⟨w1, hw1⟩ : ∃ w1, w1 = w.alloc (.cells #[.int .u32 (x0 : Nat), .int .u8 (x1 : Nat)] 80) := ⟨_, rfl⟩
  have hb1 : Below w.heap.size w w1 := by rw [hw1]; exact (Below.refl _ w).alloc (Nat.le_refl _) _
  have HB := hid hb1
  have c1 : w1.cell? ⟨g, 0, none⟩ = some (.int .u32 (z : Nat)) := (hb1.cell (p := ⟨g, 0, none⟩) hlt).trans hg
  rw [hw1] at c1
  clear hb1 hd
  go_enter Try.func78, Try.ntmps78
  go_wp2_with fail
  rw [← hw1]
  go_ret
  exact ⟨rfl, HB.out⟩

/-- What IndexFunc tells. -/
def Told15 (l : List Cd) (z : Nat) (i : Int) : Prop := (i = -1 ∧ firstC l z = none) ∨ ∃ k x, i = (k : Nat) ∧ l[k]? = some x ∧ firstC l z = some x

set_option maxRecDepth 100000 in
set_option maxHeartbeats 2000000 in
theorem indexC_any (w : World) (v : Value) (l : List Cd) (z g : Nat) (h : RdC w v l) (hg : w.cell? ⟨g, 0, none⟩ = some (.int .u32 (z : Nat))) (hl : l.length ≤ 1000) :
    Calls Try.prog 77 #[v, .func (.func 78) #[] #[.pointer (some ⟨g, 0, none⟩)]] w fun e w' => ∃ i, e = .returned (.int .i64 i) ∧ Told15 l z i ∧ Below w.heap.size w w' := by
  have H := hid h
  have HG := hid hg
  have hlt : g < w.heap.size := World.block_lt_of_cell? _ _ hg
  obtain ⟨a, c, rfl, hc1, hc2⟩ := h.len
  clear hg h
  obtain ⟨n, hn⟩ : ∃ n, n = l.length := ⟨_, rfl⟩
  rw [← hn] at hc1 H hl ⊢
  have HN := hid hn
  clear hn
  go_enter Try.func77, Try.ntmps77
  go_wp2_with fail
  go_loopw [8] (fun i wr => ∃ k : Nat, i = .int .i64 k ∧ k ≤ n ∧ (∀ j y, j < k → l[j]? = some y → y.1 ≠ z) ∧ Below w.heap.size w wr) (fun i _ => n - (intOf i).toNat)
  case atStart => exact ⟨0, rfl, Nat.zero_le _, fun j y hj => absurd hj (Nat.not_lt_zero _), Below.refl _ _⟩
  case round =>
    obtain ⟨k, rfl, hk, hall, hb⟩ := hrel
    have HA := hid hall
    have HB := hid hb
    have hsz := hb.size
    clear hall hb
    by_cases hkn : k < n
    · obtain ⟨x, hx⟩ : ∃ x, l[k]? = some x := ⟨_, List.getElem?_eq_getElem (by have := HN.out; omega)⟩
      obtain ⟨b1, b2, g', off, rfl, hg', z0, z1⟩ := (H.out.below HB.out).at hx
      have HX := hid hx
      have hki : (k : Int) < (n : Int) := by omega
      have HI := hid (isC_any wr x z g ((HB.out.cell (p := ⟨g, 0, none⟩) hlt).trans HG.out))
      clear hx
      by_cases he : x.1 = z
      · rw [show decide (x.1 = z) = true from decide_eq_true he] at HI
        have HP := hid (firstC_of HX.out he HA.out)
        clear he
        go_wp2_with fail
        refine HI.out.mono ?_
        rintro e w1 ⟨rfl, hb1⟩
        have HB1 := hid (HB.out.trans (hb1.mono hsz))
        clear hb1
        go_wp2_with fail
        go_ret
        exact ⟨_, rfl, .inr ⟨k, x, rfl, HX.out, HP.out⟩, HB1.out⟩
      · rw [show decide (x.1 = z) = false from decide_eq_false he] at HI
        have HA1 := hid (show ∀ j y, j < k + 1 → l[j]? = some y → y.1 ≠ z from fun j y hj hy => by
          by_cases e : j = k
          · subst e
            rw [HX.out] at hy
            simp only [Option.some.injEq] at hy
            subst hy
            exact he
          · exact HA.out j y (by omega) hy)
        clear he
        go_wp2_with fail
        refine HI.out.mono ?_
        rintro e w1 ⟨rfl, hb1⟩
        have HB1 := hid (HB.out.trans (hb1.mono hsz))
        clear hb1
        go_wp2_with fail
        go_roundw
        case rel => exact ⟨k + 1, by go_num, by omega, HA1.out, HB1.out⟩
        case measure => simp [intOf]; omega
    · have hki : ¬ (k : Int) < (n : Int) := by omega
      have HP := hid (firstC_none (l := l) (z := z) (fun j y hj => HA.out j y (by have := (List.getElem?_eq_some_iff.1 hj).1; have := HN.out; omega) hj))
      go_wp2_with fail
      go_ret
      exact ⟨_, rfl, .inl ⟨rfl, HP.out⟩, HB.out⟩

theorem filterMap_snoc {α β : Type} (f : α → Option β) (l : List α) (x : α) : (l ++ [x]).filterMap f = l.filterMap f ++ (match f x with | some y => [y] | none => []) := by
  rw [List.filterMap_append]
  cases h : f x <;> simp [h]

set_option maxRecDepth 100000 in
set_option maxHeartbeats 4000000 in
theorem belowC_any (w : World) (b row : Nat) (m : Mx) (vl : Value) (l : List Cd) (tier : Nat) (h : MxAt w b m) (hrow : row < m.r) (hl : RdC w vl l) (hll : l.length ≤ 1000) (ht : tier < 256) :
    Calls Try.prog 64 #[.pointer (some ⟨b, 0, none⟩), .int .i64 row, vl, .int .u8 (tier : Nat)] w fun e w' => ∃ v, e = .returned v ∧ w'.ownsRow w.heap.size 80 2 v (m.who row l tier).length (ccels (m.who row l tier)) ∧ Below w.heap.size w w' := by
  have HRW := hid (row_any w b row m h hrow)
  have hjn : (m.row row).length ≤ 16 := Nat.le_trans (jobs_len _ _) (Nat.le_trans (m.at_len _) h.n16)
  have HL := hid hl
  obtain ⟨al, cl, rfl, hlc1, hlc2⟩ := hl.len
  obtain ⟨ln, hln⟩ : ∃ n, n = l.length := ⟨_, rfl⟩
  rw [← hln] at HL hlc1 hll ⊢
  have HLN := hid hln
  clear h hl hln
  unfold Mx.who Mx.lows
  generalize m.row row = J at *
  go_enter Try.func64, Try.ntmps64
  go_wp2_with fail
  refine HRW.out.mono ?_
  rintro e w1 ⟨vj, rfl, hvj, -, hb1⟩
  have HR := hid (RdV.of_own hvj)
  obtain ⟨aj, cj, rfl, hcj1, hcj2⟩ := owns_slice hvj
  have HB1 := hid hb1
  obtain ⟨n, hn⟩ : ∃ n, n = J.length := ⟨_, rfl⟩
  rw [← hn] at hjn hcj1 HR ⊢
  have HN := hid hn
  clear hvj hb1 hn HRW
  go_wp2_with fail
  go_loopw [9, 17] (fun u i wr => ∃ k : Nat, i = .int .i64 k ∧ k ≤ n ∧ wr.ownsRow w1.heap.size 80 2 u ((J.take k).filterMap (lowC l tier)).length (ccels ((J.take k).filterMap (lowC l tier))) ∧ Below w1.heap.size w1 wr) (fun _ i _ => n - (intOf i).toNat)
  case atStart => exact ⟨0, rfl, Nat.zero_le _, World.ownsRow_nil _ _ _ _, Below.refl _ _⟩
  case round =>
    obtain ⟨k, rfl, hk, ho, hb⟩ := hrel
    have HB := hid hb
    have hsz := hb.size
    by_cases hkn : k < n
    · obtain ⟨j, hj⟩ : ∃ j, J[k]? = some j := ⟨_, List.getElem?_eq_getElem (by have := HN.out; omega)⟩
      obtain ⟨-, g, off, rfl, hg, hcell⟩ := RdV.at1 (HR.out.all hb) k (uv j) (by rw [List.getElem?_map, hj]; rfl)
      have hc0 : wr.cell? ⟨g, off + k, none⟩ = some (.int .u32 (j : Nat)) := hcell
      have hki : (k : Int) < (n : Int) := by omega
      have HJ := hid (take_snoc' _ _ _ hj)
      obtain ⟨y1, hy1⟩ : ∃ y, y = wr.alloc (.cells #[.int .u32 (j : Nat)] 33) := ⟨_, rfl⟩
      have hby : Below wr.heap.size wr y1 := by rw [hy1]; exact (Below.refl _ _).alloc (Nat.le_refl _) _
      have hbx : y1.heap[wr.heap.size]? = some (.cells #[.int .u32 (j : Nat)] 33 (0, 0)) := by rw [hy1]; exact heap_alloc_new wr _
      obtain ⟨pb, hpb⟩ : ∃ p, p = wr.heap.size := ⟨_, rfl⟩
      rw [← hpb] at hbx
      have o0 : y1.cell? ⟨pb, 0, none⟩ = some (.int .u32 (j : Nat)) := (cell_of_row _ _ _ _ _ _ hbx).trans rfl
      have HBY := hid (hb.trans (hby.mono hsz))
      have hys := hby.size
      have hlr := ((HL.out.below HB1.out).below (HB.out.trans (hby.mono hsz)))
      have HLR := hid hlr
      have HIX := hid (indexC_any y1 _ l j pb hlr o0 (by have := HLN.out; omega))
      have HOY := hid (owns_below ho hby)
      have hfl : ((J.take k).filterMap (lowC l tier)).length ≤ 16 := Nat.le_trans (List.length_filterMap_le _ _) (by rw [List.length_take]; omega)
      generalize hQ : (J.take k).filterMap (lowC l tier) = Q at *
      have HQ := hid hQ
      clear ho hb hj hby hbx hcell hlr hQ
      go_upto_region 5 with (fail)
      rw [← hy1, ← hpb]
      clear hy1 hpb hc0
      go_wp2_with fail
      refine HIX.out.mono ?_
      rintro e w2 ⟨i, rfl, hi, hb2⟩
      have HB2 := hid (HBY.out.trans (hb2.mono HBY.out.size))
      have hs2 := hb2.size
      have HO2 := hid (owns_below HOY.out hb2)
      have HL2 := hid (HLR.out.below hb2)
      rcases hi with ⟨rfl, hf⟩ | ⟨p, x, rfl, hp, hf⟩
      · have HE := hid (show (J.take (k + 1)).filterMap (lowC l tier) = Q by rw [HJ.out, filterMap_snoc, HQ.out]; unfold lowC; rw [hf]; simp)
        clear hb2 hf
        go_wp2_with fail
        go_roundw
        case rel => exact ⟨k + 1, by go_num, by omega, by rw [HE.out]; exact HO2.out, HB2.out⟩
        case measure => simp [intOf]; omega
      · obtain ⟨b1, b2, g', off', rfl, hg', z0, z1⟩ := HL2.out.at hp
        have hpl := (List.getElem?_eq_some_iff.1 hp).1
        have hpn : p < ln := by have := HLN.out; omega
        have hpi : (p : Int) < (ln : Int) := by omega
        have hp0 : (0 : Int) ≤ (p : Int) := by omega
        clear hb2 hp hpl
        by_cases hlow : x.2 < tier
        · have hli : (x.2 : Int) < (tier : Int) := by omega
          have HE := hid (show (J.take (k + 1)).filterMap (lowC l tier) = Q ++ [x] by rw [HJ.out, filterMap_snoc, HQ.out]; unfold lowC; rw [hf]; simp [hlow])
          have hsrc := hid (SrcC.lit w2 #[.int .u32 (x.1 : Nat), .int .u8 (x.2 : Nat)] 80 1 [.int .u32 (x.1 : Nat), .int .u8 (x.2 : Nat)] rfl)
          have hof := hid (owns_below HO2.out ((Below.refl _ _).alloc (Nat.le_refl _) (.cells #[.int .u32 (x.1 : Nat), .int .u8 (x.2 : Nat)] 80)))
          have HZ := hid (show (w2.alloc (.cells #[.int .u32 (x.1 : Nat), .int .u8 (x.2 : Nat)] 80)).heap.size = w2.heap.size + 1 by simp)
          generalize hql : Q.length = ql at *
          have HQL := hid hql
          have hs3 := HB2.out.size
          clear hf hlow hql
          go_wp2_with (first
            | (at_builtin; (refine appsw (by rfl) 56 80 (.tmp 35) (.tmp 40) rfl w1.heap.size 2 8 _ Try.underlying56 infoCand rfl (by decide) _ _ ql 1 (ql + 1) _ _ rfl rfl hof.out hsrc.out rfl (by intro y hy; simp only [List.mem_cons, List.not_mem_nil, or_false] at hy; rcases hy with rfl | rfl <;> rfl) rfl (by omega) (by omega) (by have := HZ.out; omega) ?_); intro ad9 cp9 wA hoA hgA; have HOA := hid hoA; have HBA := hid (show Below w1.heap.size w1 wA from (HB2.out.alloc (by omega) _).grown hgA (by have := HZ.out; omega) (fun g hg => (World.ownsRow.lt HO2.out g hg).1)); clear hoA hgA)
            | fail)
          go_roundw
          case rel => exact ⟨k + 1, by go_num, by omega, by rw [HE.out, ccels_snoc, List.length_append, HQL.out]; exact HOA.out, HBA.out⟩
          case measure => simp [intOf]; omega
        · have hli : ¬ (x.2 : Int) < (tier : Int) := by omega
          have HE := hid (show (J.take (k + 1)).filterMap (lowC l tier) = Q by rw [HJ.out, filterMap_snoc, HQ.out]; unfold lowC; rw [hf]; simp [hlow])
          clear hf hlow
          go_wp2_with fail
          go_roundw
          case rel => exact ⟨k + 1, by go_num, by omega, by rw [HE.out]; exact HO2.out, HB2.out⟩
          case measure => simp [intOf]; omega
    · have hki : ¬ (k : Int) < (n : Int) := by omega
      have e : J.take k = J := by rw [show k = n by omega, HN.out, List.take_length]
      rw [e] at ho
      obtain ⟨q, hq⟩ : ∃ q, q = J.filterMap (lowC l tier) := ⟨_, rfl⟩
      rw [← hq] at ho
      have HQ := hid hq
      have hql : q.length ≤ 10000 := by rw [hq]; have := List.length_filterMap_le (lowC l tier) J; have := HN.out; omega
      have HS := hid (sortC_any wr w1.heap.size _ q ho hql)
      have HGE := hid (fun k hk => (World.ownsRow.lt ho k hk).1)
      clear ho hb e hq
      go_wp2_with fail
      refine HS.out.mono ?_
      rintro e w3 ⟨rfl, ho3, hk3⟩
      have HO3 := hid ho3
      have HB3 := hid (HB1.out.trans ((HB.out.trans (below_of_keepsC hk3 HB.out.size HGE.out)).mono HB1.out.size))
      have hs1 := HB1.out.size
      clear ho3 hk3
      go_wp2_with fail
      go_ret
      exact ⟨_, rfl, by rw [sortC_len, ← HQ.out]; exact owns_base HO3.out hs1, HB3.out⟩

end Go.Proofs.Ytdongghjchnpbaa
