/-
  Layer 10: the document's Tick, whole.
-/
import Derived.Test.YtjpojlkdogaalaaRtS
namespace Go.Proofs.Ytjpojlkdogaalaa
open Go.RowKit
set_option linter.unusedVariables false
set_option linter.unusedSimpArgs false

set_option maxHeartbeats 4000000 in
theorem reftick_early (base : B9) (b : Nat) (s : Tk) (w : World) (h : RtAt w base b s) (hb : base.n ≤ w.heap.size) (hc : s.clock < 1000000) (hl : 0 < s.l.length) (hd : s.tock.due = false) :
    Calls Try.prog 17 #[.pointer (some ⟨b, 0, none⟩)] w fun e w' => e = .returned (.slice none 0 0) ∧ RtAt w' base b s.tock ∧ KT refTs base.n w w' := by
  obtain ⟨sv, tv, PF, hh⟩ := h
  obtain ⟨⟨sa, sc, es, hsc1, hsc2⟩, ⟨ta, tc, et, htc1, htc2⟩⟩ := hh.shapes
  subst es et
  have HLL := hid s.l_len
  have hdn : s.done < s.all.length := by have := HLL.out; omega
  rcases owns_shape hh.told with ⟨e0, e1⟩ | ⟨gt, gc, eg, _⟩
  · rw [hh.len] at e1; omega
  simp only [Value.slice.injEq] at eg
  obtain ⟨rfl, -, -⟩ := eg
  obtain ⟨x, hx⟩ : ∃ x, s.all[s.done]? = some x := ⟨_, List.getElem?_eq_getElem hdn⟩
  have hxt : x.told ≤ s.clock := (hh.ok.2.2.2.2.2 x (List.mem_of_getElem? hx)).1
  have hlx : s.tock.l = x :: s.l.drop 1 := by
    show s.all.drop s.done = x :: (s.all.drop s.done).drop 1
    rw [List.drop_drop, List.drop_eq_getElem_cons hdn]
    congr 1
    exact (List.getElem?_eq_some_iff.1 hx).2
  have hsub : ¬ (x.told + 2 ≤ s.clock + 1) := by
    have e := hd
    unfold Tk.due at e
    rw [hlx] at e
    simpa [Tk.tock] using e
  obtain ⟨w1, hw1⟩ : ∃ w1, w1 = w.setCell ⟨b, 5, none⟩ (.int .i64 ((s.clock : Int) + 1)) := ⟨_, rfl⟩
  have H1 := hid (show RtV w1 base b s.tock (.slice sa s.all.length sc) (.slice (some ⟨gt, 0, none⟩) s.all.length tc) PF by rw [hw1]; exact rt_tock hh hc)
  have HK1 := hid (show KT refTs base.n w w1 by rw [hw1]; exact hh.ktS (kset w b 5 _) (fun k _ e => .inl e) hb)
  have HW1 := hid hw1
  have c5 := hh.cells.2.2.2.2.2.1
  have f5 := hh.cells.2.2.2.2.2.2.2.2 5
  have y3 := H1.out.cells.2.2.2.1
  have y4 := H1.out.cells.2.2.2.2.1
  have y5 : w1.cell? ⟨b, 5, none⟩ = some (.int .i64 ((s.clock : Int) + 1)) := H1.out.cells.2.2.2.2.2.1
  have y6 : w1.cell? ⟨b, 6, none⟩ = some (.int .i64 (s.done : Int)) := H1.out.cells.2.2.2.2.2.2.1
  have yt : w1.cell? ⟨gt, s.done, none⟩ = some (.int .i64 (x.told : Int)) := H1.out.toldAt (i := s.done) (x := x) hx
  have e0 : ((s.done : Int) == (s.all.length : Int)) = false := by rw [beq_eq_false_iff_ne]; omega
  have HWR := hid (show IntKind.i64.wrap ((s.clock : Int) + 1) = (s.clock : Int) + 1 by rw [IntKind.wrap_i64]; omega)
  have hwr := HWR.out
  have HSB := hid (show IntKind.i64.wrap ((s.clock : Int) + 1 - (x.told : Int)) = (s.clock : Int) + 1 - (x.told : Int) by rw [IntKind.wrap_i64]; omega)
  have hsb := HSB.out
  have i0 : (0 : Int) ≤ (s.done : Int) := by omega
  have i1 : (s.done : Int) < (s.all.length : Int) := by omega
  have HBS := hid hb
  have HC := hid hc
  have HH0 := hid hh
  have e2 : (s.clock : Int) + 1 - (x.told : Int) < 2 := by omega
  clear hh hw1 hb hc hl hd hsub hlx hx hxt hdn hsc1 hsc2 htc1 htc2
  go_enter Try.func17, Try.ntmps17
  go_wp2_with fail
  try rw [HWR.out]
  rw [← HW1.out]
  go_quiet (fail)
  go_wp2
  go_ret
  exact ⟨rfl, ⟨_, _, _, H1.out.below (below_behind (Below.refl _ _) _)⟩, HK1.out.trans (KT.of_below (below_behind (Below.refl _ _) _) (Nat.le_trans HBS.out HK1.out.size))⟩

set_option maxRecDepth 100000 in
set_option maxHeartbeats 8000000 in
theorem reftick_told (base : B9) (b : Nat) (s : Tk) (w : World) (h : RtAt w base b s) (hb : base.n ≤ w.heap.size) (hc : s.clock < 1000000) (hl : 0 < s.l.length) (hd : s.tock.due = true) :
    Calls Try.prog 17 #[.pointer (some ⟨b, 0, none⟩)] w fun e w' => ∃ v, e = .returned v ∧ PkRow w' w.heap.size v (s.packs s.l.length) ∧ RtAt w' base b (s.tock.tell s.l.length) ∧ KT refTs base.n w w' := by
  obtain ⟨sv, tv, PF, hh⟩ := h
  obtain ⟨⟨sa, sc, es, hsc1, hsc2⟩, ⟨ta, tc, et, htc1, htc2⟩⟩ := hh.shapes
  subst es et
  have HLL := hid s.l_len
  have hdn : s.done < s.all.length := by have := HLL.out; omega
  rcases owns_shape hh.told with ⟨e0, e1⟩ | ⟨gt, gc, eg, _⟩
  · rw [hh.len] at e1; omega
  simp only [Value.slice.injEq] at eg
  obtain ⟨rfl, -, -⟩ := eg
  obtain ⟨x, hx⟩ : ∃ x, s.all[s.done]? = some x := ⟨_, List.getElem?_eq_getElem hdn⟩
  have hxt : x.told ≤ s.clock := (hh.ok.2.2.2.2.2 x (List.mem_of_getElem? hx)).1
  have hlx : s.tock.l = x :: s.l.drop 1 := by
    show s.all.drop s.done = x :: (s.all.drop s.done).drop 1
    rw [List.drop_drop, List.drop_eq_getElem_cons hdn]
    congr 1
    exact (List.getElem?_eq_some_iff.1 hx).2
  have hsub : x.told + 2 ≤ s.clock + 1 := by
    have e := hd
    unfold Tk.due at e
    rw [hlx] at e
    simpa [Tk.tock] using e
  obtain ⟨w1, hw1⟩ : ∃ w1, w1 = w.setCell ⟨b, 5, none⟩ (.int .i64 ((s.clock : Int) + 1)) := ⟨_, rfl⟩
  have H1 := hid (show RtV w1 base b s.tock (.slice sa s.all.length sc) (.slice (some ⟨gt, 0, none⟩) s.all.length tc) PF by rw [hw1]; exact rt_tock hh hc)
  have HK1 := hid (show KT refTs base.n w w1 by rw [hw1]; exact hh.ktS (kset w b 5 _) (fun k _ e => .inl e) hb)
  have HW1 := hid hw1
  have c5 := hh.cells.2.2.2.2.2.1
  have f5 := hh.cells.2.2.2.2.2.2.2.2 5
  have y3 := H1.out.cells.2.2.2.1
  have y4 := H1.out.cells.2.2.2.2.1
  have y5 : w1.cell? ⟨b, 5, none⟩ = some (.int .i64 ((s.clock : Int) + 1)) := H1.out.cells.2.2.2.2.2.1
  have y6 : w1.cell? ⟨b, 6, none⟩ = some (.int .i64 (s.done : Int)) := H1.out.cells.2.2.2.2.2.2.1
  have yt : w1.cell? ⟨gt, s.done, none⟩ = some (.int .i64 (x.told : Int)) := H1.out.toldAt (i := s.done) (x := x) hx
  have e0 : ((s.done : Int) == (s.all.length : Int)) = false := by rw [beq_eq_false_iff_ne]; omega
  have HWR := hid (show IntKind.i64.wrap ((s.clock : Int) + 1) = (s.clock : Int) + 1 by rw [IntKind.wrap_i64]; omega)
  have hwr := HWR.out
  have HSB := hid (show IntKind.i64.wrap ((s.clock : Int) + 1 - (x.told : Int)) = (s.clock : Int) + 1 - (x.told : Int) by rw [IntKind.wrap_i64]; omega)
  have hsb := HSB.out
  have i0 : (0 : Int) ≤ (s.done : Int) := by omega
  have i1 : (s.done : Int) < (s.all.length : Int) := by omega
  have HBS := hid hb
  have HC := hid hc
  have HH0 := hid hh
  have e2 : ¬ (s.clock : Int) + 1 - (x.told : Int) < 2 := by omega
  have HDN := hid hdn
  have HOK := hid H1.out.ok
  have HOKS := hid hh.ok
  rcases owns_shape hh.said with ⟨e0', e1'⟩ | ⟨gs, gc', eg', _⟩
  · rw [hh.len] at e1'; omega
  simp only [Value.slice.injEq] at eg'
  obtain ⟨rfl, -, -⟩ := eg'
  obtain ⟨N, hN⟩ : ∃ N, N = s.all.length := ⟨_, rfl⟩
  have HN := hid hN
  have HN6 := hid (show N ≤ 1000000 by rw [hN]; exact hh.ok.2.1)
  rw [← hN] at H1 y3 y4 e0 i1 hsc1 htc1 hdn
  clear hh hw1 hb hc hd hsub hlx hx hxt hN
  go_enter Try.func17, Try.ntmps17
  go_wp2_with fail
  try rw [HWR.out]
  rw [← HW1.out]
  go_quiet (fail)
  obtain ⟨w2, hw2⟩ : ∃ w2, w2 = w1.drewN nq := ⟨_, rfl⟩
  rw [← hw2]
  have HB2 := hid (show Below w1.heap.size w1 w2 by rw [hw2]; exact below_behind (Below.refl _ _) _)
  have H2 := hid (H1.out.below HB2.out)
  have HK2 := hid (HK1.out.trans (KT.of_below HB2.out (Nat.le_trans HBS.out HK1.out.size)))
  have z6 : w2.cell? ⟨b, 6, none⟩ = some (.int .i64 (s.done : Int)) := H2.out.cells.2.2.2.2.2.2.1
  clear hw2 y3 y4 y5 y6 yt c5 f5
  go_wp2_with fail
  clear e0 e2 hwr hsb z6
  go_loopw [3, 4] (fun v i wr => ∃ (j p : Nat) (ra : Option Addr) (rc : Nat), p = s.done + j ∧ p ≤ N ∧ v = .slice ra j rc ∧ i = .int .i64 p ∧ (∃ PF', RtV wr base b (s.tock.tell j) (.slice (some ⟨gs, 0, none⟩) N sc) (.slice (some ⟨gt, 0, none⟩) N tc) PF') ∧ PkRow wr w.heap.size (.slice ra j rc) (s.packs j) ∧ KT refTs base.n w wr) (fun _ i _ => N - (intOf i).toNat)
  case atStart => exact ⟨0, s.done, none, 0, rfl, Nat.le_of_lt hdn, rfl, rfl, ⟨PF, by rw [Tk.tell_zero _ HOK.out.1]; exact H2.out⟩, PkRow.nil _ _, HK2.out⟩
  case round =>
    obtain ⟨j, p, ra, rc, hpj, hp, rfl, rfl, hA, hP, hK⟩ := hrel
    have HPJ := hid hpj
    have HA := hid hA
    have HP := hid hP
    have HK := hid hK
    clear hA hP hK hpj
    obtain ⟨PFr, hr⟩ := HA.out
    have HR := hid hr
    have c3 := hr.cells.2.2.2.1
    clear hr
    by_cases hlt : p < N
    · have hpi : (p : Int) < (N : Int) := by omega
      have hp0 : (0 : Int) ≤ (p : Int) := by omega
      have HDJ := hid (show s.tock.done + j < s.tock.all.length by have := HPJ.out; have := HN.out; show s.done + j < s.all.length; omega)
      have d4 : wr.drew.cell? ⟨b, 4, none⟩ = some (.slice (some ⟨gt, 0, none⟩) N tc) := HR.out.cells.2.2.2.2.1
      have d5 : wr.drew.cell? ⟨b, 5, none⟩ = some (.int .i64 ((s.clock : Int) + 1)) := HR.out.cells.2.2.2.2.2.1
      have hNt : N = s.tock.all.length := HN.out
      have HRN := hid (show RtV wr base b (s.tock.tell j) (.slice (some ⟨gs, 0, none⟩) N sc) (.slice (some ⟨gt, 0, none⟩) s.tock.all.length tc) PFr by rw [← hNt]; exact HR.out)
      have hPl : PFr.length = N := by
        have h2 := HR.out.len
        rw [Tk.tell_len _ _ (by have := HDJ.out; omega), ← hNt] at h2
        exact h2
      have hrt : wr.ownsRow base.n 3 1 (.slice (some ⟨gt, 0, none⟩) N tc) N (PFr.map rtold) := by have := HR.out.told; rwa [hPl] at this
      have hfz : wr.frozen? ⟨gt, p, none⟩ = false := owns_frozen hrt _
      obtain ⟨y, hy⟩ : ∃ y, PFr[p]? = some y := ⟨_, List.getElem?_eq_getElem (by omega)⟩
      have hcz : wr.cell? ⟨gt, p, none⟩ = some (.int .i64 (y.1.told : Int)) := by
        have := World.ownsRow.cells HR.out.told (g := gt) rfl p (rtold y) (by rw [List.getElem?_map, hy]; rfl)
        rw [Addr.add_lit, Nat.zero_add] at this
        exact this
      obtain ⟨cgt, hcgt⟩ := owns_ty HR.out.told gt rfl
      have hgb : ¬ b = gt := ty_ne HR.out.head hcgt (by decide)
      have hbl : b < wr.heap.size := HR.out.lt
      clear hNt hPl hrt hy hcgt
      go_wp2_with fail
      clear c3
      go_region_held3 (fun w' => w'.cell? ⟨b, 4, none⟩ = some (.slice (some ⟨gt, 0, none⟩) N tc) ∧ w'.cell? ⟨b, 5, none⟩ = some (.int .i64 ((s.clock : Int) + 1))) (first | (refine ⟨?_, ?_⟩ <;> with_reducible assumption) | (refine ⟨?_, ?_⟩ <;> first | exact ((kset wr gt p _).cell (p := ⟨b, 4, none⟩) hbl hgb).trans d4 | exact ((kset wr gt p _).cell (p := ⟨b, 5, none⟩) hbl hgb).trans d5) | fail) (fail)
      obtain ⟨w4, hw4⟩ : ∃ w4, w4 = (wr.setCell ⟨gt, p, none⟩ (.int .i64 ((s.clock : Int) + 1))).drew := ⟨_, rfl⟩
      rw [← hw4]
      have H4 := rtold_v HRN.out HOK.out HDJ.out HPJ.out
      obtain ⟨PF4, h4⟩ := H4
      have hNt : s.tock.all.length = N := HN.out.symm
      rw [hNt] at h4
      have H4 := hid (show RtV w4 base b (s.tock.tell (j + 1)) (.slice (some ⟨gs, 0, none⟩) N sc) (.slice (some ⟨gt, 0, none⟩) N tc) PF4 by rw [hw4]; exact h4.below (below_dr (Below.refl _ _)))
      have hks : KT refTs base.n wr w4 := by
        rw [hw4]
        exact (HR.out.ktS (kset wr gt p _) (fun k _ e => .inr (.inr (by rw [e]; rfl))) (Nat.le_trans HBS.out HK.out.size)).drew
      have HK4 := hid (HK.out.trans hks)
      have HP4 := hid (HP.out.kt hks (by decide) (by decide))
      have HNB := hid (show w.heap.size ≤ w4.heap.size from HK4.out.size)
      obtain ⟨x2, hx2⟩ : ∃ x2, (s.tock.tell (j + 1)).all[p]? = some x2 := ⟨_, List.getElem?_eq_getElem (by rw [Tk.tell_len _ _ (by have := HDJ.out; omega)]; have := HDJ.out; have := HPJ.out; have : s.tock.done = s.done := rfl; omega)⟩
      have HX2 := hid hx2
      obtain ⟨PP, hpp⟩ := HP4.out
      have hpl : PP.length = j := by
        have := congrArg List.length hpp.list
        rw [Tk.packs_len, List.length_map] at this
        exact this.symm
      have HPP := hid hpp
      have HPL := hid hpl
      have HRW := hid (show w4.ownsRow w.heap.size 31 7 (.slice ra j rc) j (PP.flatMap pcells) by have e := hpp.row; rwa [hpl] at e)
      have HJL := hid (show j ≤ 1000000 by have := HPJ.out; have := HN6.out; omega)
      clear hw4 h4 hNt hks hx2 hpp hpl d4 d5 hfz hcz hgb hbl
      go_wp2_with (first
        | (go_at_call 29; refine (refpacket_some base b p (s.tock.tell (j + 1)) x2 w4 ⟨_, _, _, H4.out⟩ HX2.out).mono ?_; rintro e w5 ⟨xa, xc, rfl, ho5, hb5⟩
           have HO5 := hid ho5
           have HB5 := hid hb5
           have HAL := hid (show Below w5.heap.size w5 (w5.alloc (.cells #[.int .u8 (s.tock.tell (j + 1)).node, .int .u32 (s.tock.tell (j + 1)).epoch, .int .u32 (s.tock.tell (j + 1)).life, .int .u32 ((p : Int) + 1), .int .u32 ((s.tock.tell (j + 1)).heard : Int), .bool false, .slice xa x2.t.length xc] 31)) from (Below.refl _ _).alloc (Nat.le_refl _) _)
           have HSR := hid (SrcC.lit w5 #[.int .u8 (s.tock.tell (j + 1)).node, .int .u32 (s.tock.tell (j + 1)).epoch, .int .u32 (s.tock.tell (j + 1)).life, .int .u32 ((p : Int) + 1), .int .u32 ((s.tock.tell (j + 1)).heard : Int), .bool false, .slice xa x2.t.length xc] 31 1 _ rfl)
           have HRW5 := hid (owns_below (owns_below HRW.out HB5.out) HAL.out)
           clear ho5 hb5)
        | (at_builtin; (refine appsw (by rfl) 41 31 (.tmp 65) (.tmp 69) rfl w.heap.size 7 48 _ Try.underlying41 infoPk rfl (by decide) (.slice ra j rc) (.slice (some ⟨w5.heap.size, 0, none⟩) 1 1) j 1 (j + 1) _ _ rfl rfl HRW5.out HSR.out rfl (by simp [Value.oneCell']) rfl (by have := HJL.out; omega) (by have := HJL.out; omega) (by have := HNB.out; have := HB5.out.size; have := HAL.out.size; omega) ?_)
           intro ad cp w8 hr8 hg8
           have HR8 := hid hr8
           have HK8 := hid (kt_grown HRW5.out hg8 (by have := HNB.out; have := HB5.out.size; have := HAL.out.size; omega))
           clear hr8 hg8)
        | fail)
      have HB45 := hid (show Below w4.heap.size w4 (w5.alloc (.cells #[.int .u8 (s.tock.tell (j + 1)).node, .int .u32 (s.tock.tell (j + 1)).epoch, .int .u32 (s.tock.tell (j + 1)).life, .int .u32 ((p : Int) + 1), .int .u32 ((s.tock.tell (j + 1)).heard : Int), .bool false, .slice xa x2.t.length xc] 31)) from HB5.out.trans (HAL.out.mono HB5.out.size))
      have HZN := hid (show s.nth j = s.pk (p + 1) x2.t by
        have e := Tk.tell_t s.tock (j + 1) (by have := HDJ.out; omega)
        have e2 := congrArg (fun l => l[j]?) e
        have e4 : (s.tock.tell (j + 1)).l[j]? = some x2 := by
          show ((s.tock.tell (j + 1)).all.drop s.done)[j]? = some x2
          rw [List.getElem?_drop, ← HPJ.out]
          exact HX2.out
        simp only [List.getElem?_map, e4, Option.map_some] at e2
        unfold Tk.nth
        rw [HPJ.out]
        congr 1
        rw [List.getD_eq_getElem?_getD]
        have e3 : s.tock.l = s.l := rfl
        rw [e3] at e2
        cases h : s.l[j]? with
        | none => rw [h] at e2; cases e2
        | some q => rw [h] at e2; simp only [Option.map_some, Option.some.injEq] at e2; rw [Option.getD_some]; exact e2.symm)
      have hN6 := HN6.out
      go_roundw
      case rel =>
        refine ⟨j + 1, p + 1, ad, cp, by rw [HPJ.out]; rfl, hlt, rfl, by go_num, ⟨PF4, ?_⟩, ?_, ?_⟩
        · exact (H4.out.below HB45.out).kt HK8.out (by decide) (by decide) (by decide) (by decide)
        · rw [Tk.packs_succ]
          have hr := HR8.out
          have e9 : PP.length + 1 = j + 1 := by rw [HPL.out]
          rw [← e9] at hr ⊢
          refine PkV.push (k := s.nth j) (va := xa) (vc := xc) HPP.out (w' := w8) ?_ (fun z hz => ?_) ?_
          · rw [HZN.out]
            exact hr
          · exact (((HPP.out.own z hz).below HB45.out).kt HK8.out (by decide))
          · rw [HZN.out]
            exact (((HO5.out.below HAL.out).kt HK8.out (by decide)).base (fun k hk => by
              have := (HO5.out.lt k hk).1
              have := HNB.out
              omega))
        · exact (HK4.out.trans (KT.of_below HB45.out (Nat.le_trans HBS.out HNB.out))).fresh HK8.out (Nat.le_refl _) HBS.out (by have := HNB.out; have := HB45.out.size; omega)
      case measure => simp [intOf]; omega
    · obtain rfl : p = N := by omega
      go_wp2
      go_ret
      have hj : j = s.l.length := by have := HLL.out; have := HPJ.out; have := HN.out; have := HDN.out; omega
      rw [← hj]
      exact ⟨_, rfl, HP.out, ⟨_, _, _, HR.out⟩, HK.out⟩

theorem reftick_any (base : B9) (b : Nat) (s : Tk) (w : World) (h : RtAt w base b s) (hb : base.n ≤ w.heap.size) (hc : s.clock < 1000000) :
    Calls Try.prog 17 #[.pointer (some ⟨b, 0, none⟩)] w fun e w' => ∃ va vc, e = .returned (.slice va s.outs.length vc) ∧ PkRow w' w.heap.size (.slice va s.outs.length vc) s.outs ∧ RtAt w' base b s.tick ∧ KT refTs base.n w w' := by
  by_cases hl : s.l.length = 0
  · have hd : s.tock.due = false := by
      unfold Tk.due
      rw [show s.tock.l = s.l from rfl, List.eq_nil_of_length_eq_zero hl]
    have e1 : s.outs = [] := by unfold Tk.outs; rw [hd]; rfl
    have e2 : s.tick = s.tock := by unfold Tk.tick; rw [hd]; rfl
    rw [e1, e2]
    refine (reftick_none base b s w h hb hc hl).mono ?_
    rintro e w' ⟨rfl, h', k'⟩
    exact ⟨none, 0, rfl, PkRow.nil _ _, h', k'⟩
  · by_cases hd : s.tock.due = true
    · have e1 : s.outs = s.packs s.l.length := by unfold Tk.outs; rw [if_pos hd]
      have e2 : s.tick = s.tock.tell s.l.length := by unfold Tk.tick; rw [if_pos hd]
      rw [e2]
      refine (reftick_told base b s w h hb hc (by omega) hd).mono ?_
      rintro e w' ⟨v, rfl, hp, h', k'⟩
      rw [← e1] at hp
      obtain ⟨va, vc, rfl⟩ := hp.slice
      exact ⟨va, vc, rfl, hp, h', k'⟩
    · have hd' : s.tock.due = false := by simpa using hd
      have e1 : s.outs = [] := by unfold Tk.outs; rw [if_neg hd]
      have e2 : s.tick = s.tock := by unfold Tk.tick; rw [if_neg hd]
      rw [e1, e2]
      refine (reftick_early base b s w h hb hc (by omega) hd').mono ?_
      rintro e w' ⟨rfl, h', k'⟩
      exact ⟨none, 0, rfl, PkRow.nil _ _, h', k'⟩

end Go.Proofs.Ytjpojlkdogaalaa
