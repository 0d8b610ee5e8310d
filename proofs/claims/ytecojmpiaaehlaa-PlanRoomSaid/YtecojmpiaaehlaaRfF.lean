/-
  The document's Plan.
-/
import Derived.Test.YtecojmpiaaehlaaRfE
import Derived.Test.YtecojmpiaaehlaaRfD
namespace Go.Proofs.Ytecojmpiaaehlaa
open Go.RowKit Go.Shelf Go.ChangeShapes
set_option linter.unusedVariables false

def sc (z : Found × Value) : List Value := [.int .i64 (stA z.1 : Nat), .int .i64 (stR z.1 : Nat), z.2, .bool z.1.isSome]
def scs (Z : List (Found × Value)) : List Value := Z.flatMap sc
theorem scs_snoc (Z : List (Found × Value)) (z : Found × Value) : scs (Z ++ [z]) = scs Z ++ sc z := by unfold scs; rw [List.flatMap_append]; simp
theorem scs_at : ∀ {Z : List (Found × Value)} {j : Nat} {z : Found × Value} (i : Nat) (v : Value), Z[j]? = some z → (sc z)[i]? = some v → (scs Z)[j * 4 + i]? = some v
  | y :: L, 0, x, i, v, h, hv => by
    simp only [List.getElem?_cons_zero, Option.some.injEq] at h
    subst h
    have hi : i < 4 := (List.getElem?_eq_some_iff.1 hv).1
    show (sc y ++ scs L)[0 * 4 + i]? = _
    rw [Nat.zero_mul, Nat.zero_add, List.getElem?_append_left (by simpa [sc] using hi)]
    exact hv
  | y :: L, j + 1, x, i, v, h, hv => by
    rw [List.getElem?_cons_succ] at h
    show (sc y ++ scs L)[(j + 1) * 4 + i]? = _
    rw [List.getElem?_append_right (by simp [sc]; omega)]
    have e : (j + 1) * 4 + i - (sc y).length = j * 4 + i := by simp [sc]; omega
    rw [e]
    exact scs_at i v h hv
/-- Each start's nodes lie in a row of their own. -/
def Outs (w : World) (base : Nat) (Z : List (Found × Value)) : Prop := ∀ (j : Nat) (z : Found × Value), Z[j]? = some z → w.ownsRow base 3 1 z.2 (stN z.1).length ((stN z.1).map iv)
theorem Outs.below {w w' : World} {base : Nat} {Z : List (Found × Value)} (h : Outs w base Z) (hb : Below w.heap.size w w') : Outs w' base Z := fun j z hj => owns_below (h j z hj) hb
theorem Outs.kt {w w' : World} {base B : Nat} {Z : List (Found × Value)} {ts : List TypeId} (h : Outs w base Z) (hk : KT ts B w w') (ht : 3 ∉ ts) : Outs w' base Z := fun j z hj => owns_kt (h j z hj) hk ht
theorem Outs.snoc {w : World} {base : Nat} {Z : List (Found × Value)} {z : Found × Value} (h : Outs w base Z) (hz : w.ownsRow base 3 1 z.2 (stN z.1).length ((stN z.1).map iv)) : Outs w base (Z ++ [z]) := fun j x hj => by
  by_cases e : j < Z.length
  · rw [List.getElem?_append_left e] at hj
    exact h j x hj
  · have hlt := (List.getElem?_eq_some_iff.1 hj).1
    simp only [List.length_append, List.length_cons, List.length_nil] at hlt
    obtain rfl : j = Z.length := by omega
    rw [List.getElem?_append_right (Nat.le_refl _), Nat.sub_self] at hj
    simp at hj
    subst hj
    exact hz
theorem Outs.strow {w : World} {base k : Nat} {T : TypeId} {v : Value} {Z : List (Found × Value)} (h : Outs w base Z) (hv : w.ownsRow base T 4 v k (scs Z)) (hk : Z.length = k) : StRow w base T v (Z.map Prod.fst) := by
  rcases hv.2 with ⟨rfl, h0⟩ | ⟨g, cap, cur, rfl, hb, hgg, h1, h2, _⟩
  · exact .inl ⟨rfl, by rw [List.map_eq_nil_iff]; exact List.eq_nil_of_length_eq_zero (by omega)⟩
  · refine .inr ⟨g, cap, by rw [List.length_map, hk], by rw [List.length_map, hk]; exact h1, by unfold maxLen at h2; exact h2, hb, ⟨cur, hgg⟩, fun j s hj => ?_⟩
    rw [List.getElem?_map] at hj
    cases hz : Z[j]? with
    | none => rw [hz] at hj; simp at hj
    | some z =>
      rw [hz] at hj
      simp at hj
      subst hj
      refine ⟨z.2, fun i v hv' => ?_, h j z hz⟩
      have := World.ownsRow.cells hv (g := g) rfl _ v (scs_at i v hz hv')
      rw [Addr.add_lit, Nat.zero_add] at this
      exact this
theorem infoRStart : (Try.prog.info? 27).map (fun i => (i.zero, i.size, i.bytes)) = some (some (.agg #[.int .i64 0, .int .i64 0, .slice none 0 0, .bool false]), 4, 48) := by kernel_rfl
theorem resR_rlen {P : List (List Int)} (h : ∀ r ∈ P, r.length ≤ 1000) (ok : Bool) (row : Int) (ns : List Int) (e : Nat) : ∀ r ∈ resR P ok row ns e, r.length ≤ 1000 := fun r hr => by
  obtain ⟨k, hk⟩ := List.getElem?_of_mem hr
  unfold resR at hk
  rw [List.getElem?_mapIdx] at hk
  cases hp : P[k]? with
  | none => rw [hp] at hk; simp at hk
  | some l =>
    rw [hp] at hk
    simp at hk
    subst hk
    rw [rowR_len]
    exact h l (List.mem_of_getElem? hp)

set_option maxRecDepth 100000 in
set_option maxHeartbeats 8000000 in
theorem rplan_any (w : World) (v va : Value) (P : List (List Int)) (L : List (Int × Int)) (h : RdP w v P) (hl : P.length ≤ 1000) (hrl : ∀ r ∈ P, r.length ≤ 1000) (ha : RdA w va L) (hL : L.length ≤ 1000) (hnn : ∀ j, (stN (planAt (bndP P) L j)).length ≤ 1000) :
    Calls Try.prog 22 #[v, va] w fun e w' => ∃ u, e = .returned u ∧ StRow w' w.heap.size 27 u (planL (bndP P) L) ∧ Below w.heap.size w w' := by
  obtain ⟨aa, ac, rfl, hac1, hac2⟩ := ha.len
  have HH := hid h
  have HA := hid ha
  have HRL := hid hrl
  have HNN := hid hnn
  clear h ha hrl hnn
  go_enter Try.func22, Try.ntmps22
  go_wp2_with fail
  go_loopw [0, 5, 11] (fun pv v i wr => ∃ (k : Nat) (Pk : List (List Int)) (Z : List (Found × Value)), k ≤ L.length ∧ i = .int .i64 k ∧ (∀ w2, Keeps (fun q => v.ownBlock = some q) wr w2 → RdP w2 pv Pk) ∧ Pk.length = P.length ∧ (∀ r ∈ Pk, r.length ≤ 1000) ∧ bndP Pk = aftL (bndP P) (L.take k) ∧ Z.length = k ∧ (∀ j z, Z[j]? = some z → z.1 = planAt (bndP P) L j) ∧ wr.ownsRow w.heap.size 27 4 v k (scs Z) ∧ Outs wr w.heap.size Z ∧ Below w.heap.size w wr) (fun _ _ i _ => L.length - (intOf i).toNat)
  case atStart => exact ⟨0, P, [], Nat.zero_le _, rfl, fun w2 hk => HH.out.all ⟨hk.os, hk.tape, hk.output, hk.size, fun i hi => hk.block i hi (by simp [Value.ownBlock])⟩, rfl, HRL.out, by rw [List.take_zero]; rfl, rfl, fun j z hj => by simp at hj, World.ownsRow_nil _ _ _ _, fun j z hj => by simp at hj, Below.refl _ _⟩
  case round =>
    obtain ⟨k, Pk, Z, hk, rfl, hPK, hPl, hPr, hPb, hZl, hZ, hv, hO, hB⟩ := hrel
    have hP := hPK wr (Keeps.refl _ _)
    obtain ⟨pa, pc, hpv, hpc1, hpc2⟩ := hP.len
    rw [hPl] at hpv hpc1
    subst hpv
    have HPL := hid hPl
    have HZL := hid hZl
    clear hPl hZl
    obtain ⟨av, cv, rfl, hcv1, hcv2⟩ := owns_slice hv
    have HP := hid hP
    have HPK := hid hPK
    have HPR := hid hPr
    have HPB := hid hPb
    have HZ := hid hZ
    have HV := hid hv
    have HO := hid hO
    have HB := hid hB
    have hsw := hB.size
    clear hP hPK hPr hPb hZ hv hO
    by_cases hlt : k < L.length
    · obtain ⟨⟨K, N⟩, hx⟩ : ∃ x, L[k]? = some x := ⟨_, List.getElem?_eq_getElem hlt⟩
      obtain ⟨b, off, rfl, hbl, hrg⟩ := (HA.out.all hB).at k _ hx
      have hki : (k : Int) < (L.length : Int) := by omega
      have HX := hid hx
      have HRG := hid hrg
      have HS9 := hid (show first (bndP Pk) K = planAt (bndP P) L k by rw [HPB.out, planAt_of hx])
      have HTK := hid (take_snoc_a hx)
      clear hB hrg hx
      go_wp2_with (first
        | (refine wpList_load_mid rfl 24 (.tmp 13) rfl b (off + k * 2) rfl _ _ HRG.out Try.underlying24 rfl info_rask ?_)
        | (refine st_fresh rfl 24 (.tmp 7) (.tmp 14) rfl 2 info_rask wr _ #[.int .i64 K, .int .i64 N] rfl rfl rfl rfl (by simp [Value.oneCell']) ?_; intro w3 g3 b3 s3; have HG3 := hid g3; have HB3 := hid b3; have h31 := b3.size; have h32 := hid s3; have h33 : wr.heap.size + 1 ≤ w3.heap.size := (by omega); clear g3 b3 s3)
        | (refine load_st rfl 24 (.tmp 7) rfl wr.heap.size rfl _ _ 2 HG3.out Try.underlying24 info_rask rfl ?_)
        | fail)
      have HC := hid (rfirst_any w3 _ Pk K N (HP.out.all HB3.out) (by have := HPL.out; omega) HPR.out)
      rw [HS9.out] at HC
      refine HC.out.mono ?_
      rintro e w4 ⟨u, rfl, ho, hb4⟩
      obtain ⟨ua, uc, rfl, hu1, hu2⟩ := owns_slice ho
      have hn9 := HNN.out k
      obtain ⟨s, hs⟩ : ∃ s, s = planAt (bndP P) L k := ⟨_, rfl⟩
      rw [← hs] at ho hn9 hu1 ⊢
      have HSS := hid hs
      have HO4 := hid ho
      have HB4 := hid hb4
      have hs4 := hb4.size
      clear hs ho hb4 HC
      generalize hnl : (stN s).length = nl at *
      have HNL := hid hnl
      clear hnl
      go_wp2_with (first
        | (refine st_fresh rfl 27 (.tmp 8) (.tmp 17) rfl 4 info_rstart w4 _ #[.int .i64 (stA s : Nat), .int .i64 (stR s : Nat), .slice ua nl uc, .bool s.isSome] rfl rfl rfl rfl (by simp [Value.oneCell']) ?_; intro w5 g5 b5 s5; have HG5 := hid g5; have HB5 := hid b5; have h51 := b5.size; have h52 : w4.heap.size + 1 ≤ w5.heap.size := (by omega); have hof := hid (owns_below (owns_below (owns_below (owns_below HV.out HB3.out) HB4.out) b5) ((Below.refl _ w5).alloc (Nat.le_refl _) (.cells #[.int .i64 (stA s : Nat), .int .i64 (stR s : Nat), .slice ua nl uc, .bool s.isSome] 27))); have hsrc := hid (SrcC.lit w5 #[.int .i64 (stA s : Nat), .int .i64 (stR s : Nat), .slice ua nl uc, .bool s.isSome] 27 1 [.int .i64 (stA s : Nat), .int .i64 (stR s : Nat), .slice ua nl uc, .bool s.isSome] rfl); have h61 : w5.heap.size ≤ (w5.alloc (.cells #[.int .i64 (stA s : Nat), .int .i64 (stR s : Nat), .slice ua nl uc, .bool s.isSome] 27)).heap.size := (by rw [World.size_alloc]; omega); clear g5 b5 s5)
        | (refine load_st rfl 27 (.tmp 8) rfl w4.heap.size rfl _ _ 4 HG5.out Try.underlying27 info_rstart rfl ?_)
        | (at_builtin; (refine appsw (by rfl) 47 27 (.tmp 18) (.tmp 20) rfl w.heap.size 4 48 _ Try.underlying47 infoRStart rfl (by decide) _ _ k 1 (k + 1) _ _ rfl rfl hof.out hsrc.out rfl (by intro y hy; simp at hy; rcases hy with rfl | rfl | rfl | rfl <;> rfl) rfl (by omega) (by omega) (by omega) ?_); intro ad9 cp9 wA hoA hgA; have HOA := hid hoA; have HGA := hid hgA; have hkA := Keeps.of_grown hgA; have hnA : ∀ q, wr.heap.size ≤ q → ¬ (Value.slice av k cv).ownBlock = some q := (fun q hq e => by have := (World.ownsRow.lt HV.out q e).2; omega); have hgA3 := (hkA.block wr.heap.size (by omega) (hnA _ (Nat.le_refl _))).trans ((Below.heap_alloc _ _ _ (show wr.heap.size < w5.heap.size by omega)).trans ((HB5.out.block _ (show wr.heap.size < w4.heap.size by omega)).trans ((HB4.out.block _ (by omega)).trans HG3.out))); have hgA5 := (hkA.block w4.heap.size (by omega) (hnA _ (by omega))).trans ((Below.heap_alloc _ _ _ (show w4.heap.size < w5.heap.size by omega)).trans HG5.out); have HGA3 := hid hgA3; have HGA5 := hid hgA5; have k4 : wA.cell? ⟨wr.heap.size, 1, none⟩ = some (.int .i64 N) := (cell_of_row _ _ _ _ _ _ hgA3).trans rfl; clear hoA hgA hkA hnA hgA3 hgA5)
        | (refine load_st rfl 27 (.tmp 8) rfl w4.heap.size rfl _ _ 4 HGA5.out Try.underlying27 info_rstart rfl ?_)
        | fail)
      have hb6 : Below wr.heap.size wr (w5.alloc (.cells #[.int .i64 (stA s : Nat), .int .i64 (stR s : Nat), .slice ua nl uc, .bool s.isSome] 27)) := (HB3.out.trans ((HB4.out.mono h31).trans (HB5.out.mono (by omega)))).alloc (by omega) _
      have HB6 := hid hb6
      have hkA := Keeps.of_grown HGA.out
      have hk6 : Keeps (fun q => (Value.slice av k cv).ownBlock = some q) wr wA := (Keeps.of_below (S := fun q => (Value.slice av k cv).ownBlock = some q) hb6 (fun i hi hge => absurd hi (by omega))).trans hkA
      have hpA := HPK.out wA hk6
      have kt9 : KT [27] w.heap.size (w5.alloc (.cells #[.int .i64 (stA s : Nat), .int .i64 (stR s : Nat), .slice ua nl uc, .bool s.isSome] 27)) wA := KT.of_keeps hkA (fun q _ e => by
        obtain ⟨cur, hc⟩ := owns_ty hof.out q e
        exact ⟨(World.ownsRow.lt hof.out q e).1, _, _, _, hc, by simp⟩) (by omega)
      have hOA : Outs wA w.heap.size (Z ++ [(s, .slice ua nl uc)]) := by
        refine ((HO.out.below hb6).snoc ?_).kt kt9 (by decide)
        show World.ownsRow _ _ _ _ (.slice ua nl uc) (stN s).length _
        rw [HNL.out]
        exact owns_base (owns_below (owns_below HO4.out HB5.out) ((Below.refl _ _).alloc (Nat.le_refl _) _)) (by omega)
      have HOuts := hid hOA
      have HBA := hid ((HB.out.trans (hb6.mono hsw)).trans kt9.below)
      have hsA := HBA.out.size
      have hoA4 : wA.ownsRow w3.heap.size 3 1 (.slice ua nl uc) nl ((stN s).map iv) := owns_kt (owns_below (owns_below HO4.out HB5.out) ((Below.refl _ _).alloc (Nat.le_refl _) _)) kt9 (by decide)
      have hC := rreserve_any wA _ Pk (stA s : Nat) (stR s : Nat) N ((stN s).map Int.ofNat) s.isSome (.slice ua nl uc) hpA (by have := HPL.out; omega) HPR.out (by rw [iw_iv]; exact (RdV.of_own hoA4).weak) (by rw [List.length_map, HNL.out]; omega)
      have HC := hid hC
      have HPB2 := hid (show bndP (resR Pk s.isSome (stR s : Nat) ((stN s).map Int.ofNat) (addT (stA s : Nat) (max N 1))) = aftL (bndP P) (L.take (k + 1)) by
        rw [bnd_resR, HTK.out, aftL_snoc, aft_res, HPB.out]
        have h1 := HSS.out
        rw [planAt_of HX.out] at h1
        rw [← h1])
      have HPR2 := hid (resR_rlen HPR.out s.isSome (stR s : Nat) ((stN s).map Int.ofNat) (addT (stA s : Nat) (max N 1)))
      have HPL2 := hid (show (resR Pk s.isSome (stR s : Nat) ((stN s).map Int.ofNat) (addT (stA s : Nat) (max N 1))).length = P.length by rw [resR_len]; exact HPL.out)
      have HZ2 := hid (show ∀ j z, (Z ++ [(s, (.slice ua nl uc : Value))])[j]? = some z → z.1 = planAt (bndP P) L j by
        intro j z hj
        by_cases e : j < Z.length
        · rw [List.getElem?_append_left e] at hj
          exact HZ.out j z hj
        · have hlt := (List.getElem?_eq_some_iff.1 hj).1
          simp only [List.length_append, List.length_cons, List.length_nil] at hlt
          obtain rfl : j = Z.length := by omega
          rw [List.getElem?_append_right (Nat.le_refl _), Nat.sub_self] at hj
          simp at hj
          subst hj
          show s = _
          rw [HSS.out, HZL.out])
      clear hb6 hkA hk6 hpA kt9 hOA hoA4 hC
      refine HC.out.mono ?_
      rintro e w6 ⟨u', rfl, hp6, hb66, hk66⟩
      have HB66 := hid hb66
      have HK66 := hid hk66
      clear hp6 hb66 hk66
      go_wp2
      go_roundw
      case rel =>
        refine ⟨k + 1, _, Z ++ [(s, .slice ua nl uc)], hlt, by go_num, fun w2 hk2 => HK66.out w2 (hk2.mono fun i _ hi => (World.ownsRow.lt HOA.out i hi).2), HPL2.out, HPR2.out, HPB2.out, by simp [HZL.out], HZ2.out, ?_, HOuts.out.below HB66.out, HBA.out.trans (HB66.out.mono hsA)⟩
        rw [scs_snoc]
        exact owns_below HOA.out HB66.out
      case measure => simp [intOf]; omega
    · have ek : k = L.length := by omega
      have hki : ¬ (k : Int) < (L.length : Int) := by omega
      have HQ := hid (show StRow wr w.heap.size 27 (.slice av k cv) (planL (bndP P) L) by
        have h1 := HO.out.strow HV.out HZL.out
        have e : Z.map Prod.fst = planL (bndP P) L := by
          refine List.ext_getElem? fun j => ?_
          rw [List.getElem?_map]
          by_cases hj : j < L.length
          · rw [planL_at hj]
            obtain ⟨z, hz⟩ : ∃ z, Z[j]? = some z := ⟨_, List.getElem?_eq_getElem (by have := HZL.out; omega)⟩
            rw [hz, ← HZ.out j z hz]; rfl
          · rw [List.getElem?_eq_none (by have := HZL.out; omega), List.getElem?_eq_none (by rw [planL_len]; omega)]; rfl
        rw [e] at h1
        exact h1)
      clear hlt ek hB
      go_wp2
      go_ret
      exact ⟨_, rfl, HQ.out, HB.out⟩

end Go.Proofs.Ytecojmpiaaehlaa
