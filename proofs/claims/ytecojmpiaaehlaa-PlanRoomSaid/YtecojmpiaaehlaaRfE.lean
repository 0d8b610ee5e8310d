/-
  The document's Reserve.
-/
import Derived.Test.YtecojmpiaaehlaaLwC
namespace Go.Proofs.Ytecojmpiaaehlaa
open Go.RowKit Go.Shelf Go.ChangeShapes
set_option linter.unusedVariables false

theorem SrcC.of_rdv {w : World} {a : Option Addr} {n cap : Nat} {xs : List Value} (h : RdV w (.slice a n cap) xs) (hn : n = xs.length) : SrcC w (.slice a n cap) n xs := by
  refine SrcC.of_rd h.weak hn fun e => ?_
  subst e
  rcases h with ⟨h, _⟩ | ⟨b, off, c, h, _⟩
  · simp at h; exact h.2
  · simp at h
theorem row_step {ok : Bool} {row : Int} {ns : List Int} {e k j : Nat} {l : List Int} {x : Int} (hx : ns[j]? = some x) : rowR ok row (ns.take (j + 1)) e k l = if ok = true ∧ (k : Int) = row ∧ 0 ≤ x ∧ x < l.length then (rowR ok row (ns.take j) e k l).set x.toNat (e : Int) else rowR ok row (ns.take j) e k l := by
  have e1 : ns.take (j + 1) = ns.take j ++ [x] := by rw [List.take_add_one, hx]; rfl
  rw [e1]
  unfold rowR
  by_cases h : ok = true ∧ (k : Int) = row
  · rw [if_pos h, if_pos h, setR_snoc]
    by_cases h2 : 0 ≤ x ∧ x < l.length
    · rw [if_pos h2, if_pos ⟨h.1, h.2, h2⟩]
    · rw [if_neg h2, if_neg (fun h3 => h2 h3.2.2)]
  · rw [if_neg h, if_neg h, if_neg (fun h3 => h ⟨h3.1, h3.2.1⟩)]

set_option maxRecDepth 100000 in
set_option maxHeartbeats 4000000 in
theorem rreserve_any (w : World) (v : Value) (P : List (List Int)) (at_ row len : Int) (ns : List Int) (ok : Bool) (u : Value) (h : RdP w v P) (hl : P.length ≤ 1000) (hrl : ∀ r ∈ P, r.length ≤ 1000) (hu : RdW w u (ns.map iw)) (hnl : ns.length ≤ 1000) :
    Calls Try.prog 19 #[v, .agg #[.int .i64 at_, .int .i64 row, u, .bool ok], .int .i64 len] w fun e w' => ∃ u', e = .returned u' ∧ RdP w' u' (resR P ok row ns (addT at_ (max len 1))) ∧ Below w.heap.size w w' ∧ ∀ w2, Keeps (fun q => q < w.heap.size) w' w2 → RdP w2 u' (resR P ok row ns (addT at_ (max len 1))) := by
  obtain ⟨a, c, rfl, hc1, hc2⟩ := h.len
  obtain ⟨ua, uc, rfl, hu1, hu2⟩ := hu.len
  rw [List.length_map] at *
  have HH := hid h
  have HU := hid hu
  have HRL := hid hrl
  have hl' := hl
  clear h hu hrl
  generalize hpl : P.length = pl at *
  have HPL := hid hpl
  generalize hnn : ns.length = n at *
  have HNN := hid hnn
  clear hpl hnn
  obtain ⟨e, he⟩ : ∃ e, e = addT at_ (max len 1) := ⟨_, rfl⟩
  rw [← he]
  have HE := hid he
  clear he
  go_enter Try.func19, Try.ntmps19
  go_wp2_with fail
  obtain ⟨x1, hx1⟩ : ∃ x1, x1 = w.alloc (.cells #[.int .i64 at_, .int .i64 row, .slice ua n uc, .bool ok] 27) := ⟨_, rfl⟩
  have hs1 : x1.heap.size = w.heap.size + 1 := by rw [hx1]; simp
  have hb1 : Below w.heap.size w x1 := by rw [hx1]; exact (Below.refl _ w).alloc (Nat.le_refl _) _
  have HG1 := hid (show x1.heap[w.heap.size]? = some (.cells #[.int .i64 at_, .int .i64 row, .slice ua n uc, .bool ok] 27 (0, 0)) by rw [hx1]; exact heap_alloc_new w _)
  have HB1 := hid hb1
  rw [← hx1]
  clear hx1 hb1
  go_loopw [7, 15] (fun v i wr => ∃ (k : Nat) (vals : List Value), k ≤ pl ∧ i = .int .i64 k ∧ wr.ownsRow x1.heap.size 25 1 v k vals ∧ FewIn wr x1.heap.size vals ((resR P ok row ns e).take k) ∧ Below x1.heap.size x1 wr) (fun _ i _ => pl - (intOf i).toNat)
  case atStart => exact ⟨0, [], Nat.zero_le _, rfl, World.ownsRow_nil _ _ _ _, ⟨rfl, fun j r hj => by simp at hj⟩, Below.refl _ _⟩
  case round =>
    obtain ⟨wq, hwq⟩ : ∃ wq, wq = wr := ⟨_, rfl⟩
    subst hwq
    obtain ⟨k, vals, hk, rfl, hv, hF, hB⟩ := hrel
    have HV := hid hv
    have HF := hid hF
    have HB := hid hB
    have hsw := hB.size
    have HB2 := hid (HB1.out.trans (hB.mono (by omega)))
    obtain ⟨av, cv, rfl, hcv1, hcv2⟩ := owns_slice hv
    clear hv hF
    by_cases hlt : k < pl
    · obtain ⟨l, hx⟩ : ∃ l, P[k]? = some l := ⟨_, List.getElem?_eq_getElem (by rw [HPL.out]; exact hlt)⟩
      obtain ⟨b, off, rfl, ra, rc, hcell, hrc1, hrc2, hrv⟩ := (HH.out.all HB2.out).at k l hx
      have hki : (k : Int) < (pl : Int) := by omega
      have hll : l.length ≤ 1000 := HRL.out l (List.mem_of_getElem? hx)
      have HTS := hid (take_snoc_p (resR_at (ok := ok) (row := row) (ns := ns) (e := e) hx))
      have hm0 : (wq.alloc (.cells #[] 3)).ownsRow wq.heap.size 3 1 (.slice (some ⟨wq.heap.size, 0, none⟩) 0 0) 0 [] := World.ownsRow_made wq (e := 3) (size := 1) #[] 0 (base := wq.heap.size) (Nat.le_refl _) (Nat.zero_le _) rfl
      have HM0 := hid hm0
      have hbA : Below wq.heap.size wq (wq.alloc (.cells #[] 3)) := (Below.refl _ wq).alloc (Nat.le_refl _) _
      have HBA := hid hbA
      have hrv' : RdV (wq.alloc (.cells #[] 3)) (.slice ra l.length rc) (l.map iw) := hrv.all hbA
      have HSA := hid (SrcC.of_rdv hrv' (by rw [List.length_map]))
      have HRW := hid (show (l.map iw).length = l.length * 1 by simp)
      clear hm0 hbA hrv hrv' hx hB
      generalize htl' : l.length = tl at *
      have HTL := hid htl'
      clear htl'
      go_wp2_with (first
        | (at_builtin; (refine appsw (by rfl) 25 3 (.tmp 20) (.tmp 21) rfl wq.heap.size 1 8 _ Try.underlying25 Try.infoInt rfl (by decide) _ _ 0 tl tl _ _ rfl rfl HM0.out HSA.out HRW.out (iw_one l) (by omega) (by omega) (by omega) (by simp) ?_); intro ad5 cp5 w5 ho5 hg5; rw [List.nil_append] at ho5; have hb5 : Below wq.heap.size wq w5 := HBA.out.grown hg5 (by simp) (fun g hg => (World.ownsRow.lt HM0.out g hg).1); have HB5 := hid hb5; have HO5 := hid ho5; have hs5 := hb5.size; have d2 : w5.cell? ⟨w.heap.size, 2, none⟩ = some (.slice ua n uc) := (cell_of_row _ _ _ _ _ _ ((hb5.block _ (by omega)).trans ((HB.out.block _ (by omega)).trans HG1.out))).trans rfl; clear ho5 hg5 hb5)
        | fail)
      have HB52 := hid (HB2.out.trans (HB5.out.mono (by omega)))
      go_loopw [26] (fun i wx => ∃ j : Nat, j ≤ n ∧ i = .int .i64 j ∧ wx.ownsRow wq.heap.size 3 1 (.slice ad5 tl cp5) tl ((rowR ok row (ns.take j) e k l).map iw) ∧ Below wq.heap.size wq wx) (fun i _ => n - (intOf i).toNat)
      case atStart => exact ⟨0, Nat.zero_le _, rfl, by rw [show rowR ok row (ns.take 0) e k l = l by unfold rowR setR; simp]; exact HO5.out, HB5.out⟩
      case round =>
        obtain ⟨j, hj, rfl, ho, hBx⟩ := hrel
        have HO := hid ho
        have HBX := hid hBx
        have hsx := hBx.size
        have HBX2 := hid (HB2.out.trans (hBx.mono (by omega)))
        have g1 := (hBx.block _ (by omega)).trans ((HB.out.block _ (by omega)).trans HG1.out)
        have d0 : wr.cell? ⟨w.heap.size, 0, none⟩ = some (.int .i64 at_) := (cell_of_row _ _ _ _ _ _ g1).trans rfl
        have d1 : wr.cell? ⟨w.heap.size, 1, none⟩ = some (.int .i64 row) := (cell_of_row _ _ _ _ _ _ g1).trans rfl
        have d3 : wr.cell? ⟨w.heap.size, 3, none⟩ = some (.bool ok) := (cell_of_row _ _ _ _ _ _ g1).trans rfl
        by_cases hjl : j < n
        · obtain ⟨x, hx⟩ : ∃ x, ns[j]? = some x := ⟨_, List.getElem?_eq_getElem (by rw [HNN.out]; exact hjl)⟩
          obtain ⟨gu, ou, rfl, -, hcu⟩ := (HU.out.all HBX2.out).at j (iw x) (by rw [List.getElem?_map, hx]; rfl)
          have hcx : wr.cell? ⟨gu, ou + j, none⟩ = some (.int .i64 x) := hcu
          have hji : (j : Int) < (n : Int) := by omega
          have HST := hid (row_step (ok := ok) (row := row) (e := e) (k := k) (l := l) hx)
          rw [HTL.out] at HST
          clear hcu g1 hBx hx
          by_cases hc : ok = true ∧ (k : Int) = row ∧ 0 ≤ x ∧ x < (tl : Int)
          · obtain ⟨rfl, hrow, hx0, hxl⟩ := hc
            obtain ⟨xn, rfl⟩ := Int.eq_ofNat_of_zero_le hx0
            have HST2 := HST.out
            rw [if_pos ⟨rfl, hrow, hx0, hxl⟩] at HST2
            have HST3 := hid HST2
            clear HST2 HST hx0
            subst hrow
            have hxn : xn < tl := by omega
            rcases owns_shape ho with ⟨_, h0⟩ | ⟨g, cc, hv, hbg, hgg, _⟩
            · omega
            · simp only [Value.slice.injEq] at hv
              obtain ⟨rfl, -, rfl⟩ := hv
              have hfz := World.ownsRow.frozenAt ho xn
              have hcell' : ∃ y, wr.cell? ⟨g, xn, none⟩ = some y := by
                obtain ⟨y, hy⟩ : ∃ y, ((rowR true (k : Int) (ns.take j) e k l).map iw)[xn]? = some y := ⟨_, List.getElem?_eq_getElem (by rw [List.length_map, rowR_len, HTL.out]; exact hxn)⟩
                have h9 := (RdV.of_own ho)
                rw [show tl = ((rowR true (k : Int) (ns.take j) e k l).map iw).length by rw [List.length_map, rowR_len, HTL.out]] at h9
                obtain ⟨-, b9, o9, e9, -, c9⟩ := h9.at xn y hy
                cases e9
                exact ⟨y, by rw [Nat.zero_add] at c9; exact c9⟩
              obtain ⟨y, hcell9⟩ := hcell'
              have hni : (xn : Int) < (tl : Int) := by omega
              clear ho hgg
              go_wp2_with fail
              refine (raddt_any _ _ _).mono ?_
              rintro e' w6 ⟨rfl, rfl⟩
              rw [← HE.out]
              have hso := (HO.out.stored xn (iw (e : Int))).1
              rw [← List.map_set] at hso
              have HSO := hid hso
              have HBS := hid (HBX.out.setCell (p := ⟨g, xn, none⟩) (show wq.heap.size ≤ g from hbg) (iw (e : Int)))
              clear hso
              go_wp2_with fail
              go_roundw
              case rel => exact ⟨j + 1, hjl, by go_num, by rw [HST3.out, Int.toNat_natCast]; exact HSO.out, HBS.out⟩
              case measure => simp [intOf]; omega
          · have HST2 := HST.out
            rw [if_neg hc] at HST2
            have HST3 := hid HST2
            clear HST2 HST
            clear ho
            cases ok with
            | false =>
              go_wp2_with fail
              go_roundw
              case rel => exact ⟨j + 1, hjl, by go_num, by rw [HST3.out]; exact HO.out, HBX.out⟩
              case measure => simp [intOf]; omega
            | true =>
              by_cases hc1 : (k : Int) = row
              · by_cases hc2 : 0 ≤ x
                · have hc3 : ¬ x < (tl : Int) := fun h => hc ⟨rfl, hc1, hc2, h⟩
                  have hc4 : x ≥ 0 := hc2
                  clear hc
                  go_wp2_with fail
                  go_roundw
                  case rel => exact ⟨j + 1, hjl, by go_num, by rw [HST3.out]; exact HO.out, HBX.out⟩
                  case measure => simp [intOf]; omega
                · have hc4 : ¬ x ≥ 0 := hc2
                  clear hc
                  go_wp2_with fail
                  go_roundw
                  case rel => exact ⟨j + 1, hjl, by go_num, by rw [HST3.out]; exact HO.out, HBX.out⟩
                  case measure => simp [intOf]; omega
              · clear hc
                go_wp2_with fail
                go_roundw
                case rel => exact ⟨j + 1, hjl, by go_num, by rw [HST3.out]; exact HO.out, HBX.out⟩
                case measure => simp [intOf]; omega
        · have e1 : j = n := by omega
          have hji : ¬ (j : Int) < (n : Int) := by omega
          have HO9 := hid (show wr.ownsRow wq.heap.size 3 1 (.slice ad5 tl cp5) tl ((rowR ok row ns e k l).map iw) by
            have h9 := HO.out
            rw [List.take_of_length_le (by rw [HNN.out]; omega)] at h9
            exact h9)
          have HVX := hid (owns_below HV.out (hBx.mono (Nat.le_refl _)))
          have HFX := hid (HF.out.below (hBx.mono (Nat.le_refl _)))
          have HRX := hid (rowR_len ok row ns e k l)
          clear ho g1 hBx hjl
          generalize rowR ok row ns e k l = l' at *
          have hb6 : Below wr.heap.size wr (wr.alloc (.cells #[.slice ad5 tl cp5] 25)) := (Below.refl _ wr).alloc (Nat.le_refl _) _
          have HB6 := hid hb6
          have hs6 := hb6.size
          have HV6 := hid (owns_below HVX.out hb6)
          have HS6 := hid (SrcC.lit wr #[.slice ad5 tl cp5] 25 1 [.slice ad5 tl cp5] rfl)
          clear hb6
          go_wp2_with (first
            | (at_builtin; (refine appsw (by rfl) 22 25 (.tmp 57) (.tmp 59) rfl x1.heap.size 1 24 _ Try.underlying22 infoRows rfl (by decide) _ _ k 1 (k + 1) _ _ rfl rfl HV6.out HS6.out rfl (by intro y hy; rw [List.mem_singleton] at hy; subst hy; rfl) rfl (by omega) (by omega) (by omega) ?_); intro ad9 cp9 w9 ho9 hg9; have HO10 := hid ho9; have HG9 := hid hg9; clear ho9 hg9)
            | fail)
          have kt9 : KT [25] x1.heap.size (wr.alloc (.cells #[.slice ad5 tl cp5] 25)) w9 := KT.of_keeps (Keeps.of_grown HG9.out) (fun q _ e => by
            obtain ⟨cur, hc⟩ := owns_ty HV6.out q e
            exact ⟨(World.ownsRow.lt HV6.out q e).1, _, _, _, hc, by simp⟩) (by omega)
          have hf9 : FewIn w9 x1.heap.size (vals ++ [.slice ad5 tl cp5]) ((resR P ok row ns e).take k ++ [l']) := by
            refine ((HFX.out.below HB6.out).snoc ?_).kt kt9 (by decide)
            have h9 := owns_below HO9.out HB6.out
            rw [HRX.out, HTL.out]; exact owns_base h9 hsw
          have HF9 := hid hf9
          have HB9 := hid (((HB.out.trans (HBX.out.mono hsw)).trans (HB6.out.mono (by omega))).trans kt9.below)
          clear kt9 hf9
          go_wp2
          go_roundw
          case rel => exact ⟨k + 1, _, hlt, by go_num, HO10.out, by rw [HTS.out]; exact HF9.out, HB9.out⟩
          case measure => simp [intOf]; omega
    · have ek : k = pl := by omega
      have hki : ¬ (k : Int) < (pl : Int) := by omega
      have HQ2 := hid (show ∀ w2, Keeps (fun q => q < w.heap.size) wq w2 → RdP w2 (.slice av k cv) (resR P ok row ns e) by
        intro w2 hk2
        have h1 := HF.out
        rw [List.take_of_length_le (by rw [resR_len, HPL.out]; omega)] at h1
        have h3 : FewIn w2 x1.heap.size vals (resR P ok row ns e) := ⟨h1.1, fun j r hj => by
          obtain ⟨u, h4, h5⟩ := h1.2 j r hj
          exact ⟨u, h4, owns_by h5 fun q hq => hk2.block q (World.ownsRow.lt h5 q hq).2 (by have := (World.ownsRow.lt h5 q hq).1; omega)⟩⟩
        refine h3.rdp ?_
        rw [resR_len, HPL.out, ← ek]
        exact owns_by HV.out fun q hq => hk2.block q (World.ownsRow.lt HV.out q hq).2 (by have := (World.ownsRow.lt HV.out q hq).1; omega))
      have HQ := hid (HQ2.out wq ⟨rfl, rfl, rfl, Nat.le_refl _, fun _ _ _ => rfl⟩)
      clear hlt ek hB
      go_wp2
      go_ret
      exact ⟨_, rfl, HQ.out, HB2.out, HQ2.out⟩

end Go.Proofs.Ytecojmpiaaehlaa
