/-
  Layer 5: the document's Put.
-/
import Derived.Test.YtbchegbamcigkaaRefM5
namespace Go.Proofs.Ytbchegbamcigkaa
open Go.RowKit

theorem infoRW : (Try.prog.info? 108).map (fun i => (i.zero, i.size, i.bytes)) = some (some (.agg #[.int .i64 0, .slice none 0 0]), 2, 32) := by kernel_rfl

/-- What an append of such rows reads. -/
def SrcR (w : World) (u : Value) (ys : List (Nat × Value)) : Prop :=
  (u = .slice none 0 0 ∧ ys = []) ∨ ∃ a c, u = .slice (some a) ys.length c ∧ ∀ j y, (ys.flatMap rwcells)[j]? = some y → w.cell? (a.add j) = some y

theorem rw_length (ys : List (Nat × Value)) : (ys.flatMap rwcells).length = ys.length * 2 := by
  induction ys with
  | nil => rfl
  | cons x ys ih => rw [List.flatMap_cons, List.length_append, ih, List.length_cons]; simp [rwcells]; omega

theorem SrcR.of_own {w : World} {base : Nat} {v : Value} {xs : List (Nat × Value)} (h : w.ownsRow base 108 2 v xs.length (xs.flatMap rwcells)) : SrcR w v xs := by
  rcases h.2 with ⟨rfl, hn⟩ | ⟨g, cap, cur, rfl, hb, hg, _⟩
  · exact .inl ⟨rfl, List.eq_nil_of_length_eq_zero hn⟩
  · exact .inr ⟨⟨g, 0, none⟩, cap, rfl, World.ownsRow.cells h (g := g) rfl⟩

theorem run_appr (w : World) (ty : TypeId) (base : Nat) (v u : Value) (xs ys : List (Nat × Value)) (hown : w.ownsRow base 108 2 v xs.length (xs.flatMap rwcells)) (hsrc : SrcR w u ys) (hone : ∀ y ∈ ys, y.2.oneCell' = true)
    (hlen : xs.length + ys.length ≤ 4000000) (hbase : base ≤ w.heap.size) :
    ∃ v' w', (Builtin.append_ #[49, 49] ty #[v, u]).run Try.prog w = .ok v' w' ∧ w'.ownsRow base 108 2 v' (xs ++ ys).length ((xs ++ ys).flatMap rwcells) ∧ w.grownBy w' v.ownBlock := by
  obtain ⟨i, hi, hz0, hz1, hz2⟩ := info_parts infoRW
  rcases hsrc with ⟨rfl, rfl⟩ | ⟨a, c, rfl, hc⟩
  · have hr := run_append_owned_none (P := Try.prog) (w := w) base 49 ty 108 i 2 Try.underlying49 hi _ _ _ hown
    exact ⟨v, w, hr, by rw [List.append_nil]; exact hown, ⟨rfl, rfl, rfl, Nat.le_refl _, fun _ _ _ => rfl⟩⟩
  · obtain ⟨v', w', hr, r1, r2, _⟩ := run_append_own (P := Try.prog) w base 49 ty 108 i (.agg #[.int .i64 0, .slice none 0 0]) 2 32 Try.underlying49 hi hz0 hz1 hz2 rfl (by decide) v xs.length _ hown a ys.length c (ys.flatMap rwcells) (rw_length ys) hc (fun y hy => by
      rw [List.mem_flatMap] at hy
      obtain ⟨z, hz, hy⟩ := hy
      simp only [rwcells, List.mem_cons, List.not_mem_nil, or_false] at hy
      rcases hy with rfl | rfl
      · rfl
      · exact hone z hz) (by unfold maxLen; omega) (by omega) hbase
    refine ⟨v', w', hr, ?_, r2⟩
    rw [List.length_append, List.flatMap_append]
    exact r1

theorem appr {w : World} {ops : Array Oper} {rest : List Oper} {o : Oper} {a : Act} {Q : Exit → Act → World → Prop} (hw : Region.wanted o (yielded ops a.tmps) = true) (s x : Operand)
    (ho : o.op = .call { callee := .builtin .append, args := #[s, x], argTypes := #[49, 49] })
    (base : Nat) (v u : Value) (xs ys : List (Nat × Value)) (hs : a.eval s = v) (hx : a.eval x = u) (hown : w.ownsRow base 108 2 v xs.length (xs.flatMap rwcells)) (hsrc : SrcR w u ys) (hone : ∀ y ∈ ys, y.2.oneCell' = true)
    (hlen : xs.length + ys.length ≤ 4000000) (hbase : base ≤ w.heap.size)
    (h : ∀ v' w', w'.ownsRow base 108 2 v' (xs ++ ys).length ((xs ++ ys).flatMap rwcells) → w.grownBy w' v.ownBlock → wpList Try.prog ops Q rest (a.put o.dst v') w') : wpList Try.prog ops Q (o :: rest) a w :=
  BigFrame.wpList_want hw fun _ hK => by
    obtain ⟨v', w', hrun, h1, h2⟩ := run_appr w o.type base v u xs ys hown hsrc hone hlen hbase
    unfold Oper.wp
    simp [execOp, ho, resolve, invoke, builtin, hs, hx, hrun, Result.andThen]
    exact hK _ _ (h v' w' h1 h2)

theorem RefAt.like {w : World} {base : Bs} {rb gd cd : Nat} {wv : Value} {s s' : Sl} (h : RefAt w base rb gd cd wv s) (e0 : s'.n = s.n) (e1 : s'.done = s.done) (e2 : s'.way = s.way) (e3 : s'.off = s.off) (e4 : s'.armed = s.armed) (e5 : s'.steps = s.steps) (hok : s'.ok) : RefAt w base rb gd cd wv s' := by
  obtain ⟨a, hd, hp, hb, _⟩ := h
  refine ⟨?_, ?_, ?_, hb, hok⟩
  · rw [e0, e3, e4, e5]; exact a
  · rw [e0, e1]; exact hd
  · rw [e2]; exact hp

/-- The way is another row. -/
theorem RefAt.setway {w : World} {base : Bs} {rb gd cd : Nat} {wv : Value} {s : Sl} (h : RefAt w base rb gd cd wv s) (s' : Sl) (v' : Value) (ws : List (Nat × List UInt8)) (PW : List (Nat × Value)) (hp : WayAt w base v' ws PW) (e0 : s'.n = s.n) (e1 : s'.done = s.done) (e2 : s'.way = ws) (e3 : s'.off = s.off) (e4 : s'.armed = s.armed) (e5 : s'.steps = s.steps) (hok : s'.ok) :
    RefAt (w.setCell ⟨rb, 1, none⟩ v') base rb gd cd v' s' := by
  obtain ⟨p1, p2, p3, p4, p5, p6⟩ := h.apart
  obtain ⟨a, ⟨DV, hd⟩, _, hb, _⟩ := h
  have hk := keeps_set w rb 1 v'
  refine ⟨?_, ⟨DV, ?_⟩, ⟨PW, ?_⟩, hb, hok⟩
  · rw [heap_setCell_same _ _ _ _ _ _ a, e0, e3, e4, e5]
    simp
  · rw [e0, e1]; exact hd.keeps hk (fun e => p1 e.symm) (fun g cs _ hg => (p3 g cs hg).1)
  · rw [e2]; exact hp.keeps hk (fun k hk' e => by
      obtain ⟨cur, hc⟩ := owns_type hp.1 k hk'
      subst e
      rw [a] at hc; simp only [Option.some.injEq, Obj.cells.injEq] at hc; exact absurd hc.2.1 (by decide)) (fun g cs _ hg => (p3 g cs hg).1)

theorem RowB.one {w : World} {base : Bs} {v : Value} {l : List UInt8} (h : RowB w base v l) : v.oneCell' = true := by
  obtain ⟨_, g, c, cs, rfl, _⟩ := h
  rfl

theorem WayAt.one {w : World} {base : Bs} {wv : Value} {ws : List (Nat × List UInt8)} {PW : List (Nat × Value)} (h : WayAt w base wv ws PW) : ∀ y ∈ PW, y.2.oneCell' = true := by
  intro y hy
  obtain ⟨k, hk, rfl⟩ := List.getElem_of_mem hy
  have := (h.2.2 k (by rw [← h.2.1]; exact hk)).2.one
  rw [List.getD_eq_getElem?_getD, List.getElem?_eq_getElem hk] at this
  exact this

theorem getD_left {α : Type} (l m : List α) (j : Nat) (z : α) (h : j < l.length) : (l ++ m).getD j z = l.getD j z := by
  simp only [List.getD_eq_getElem?_getD]
  rw [List.getElem?_append_left h]
theorem getD_last {α : Type} (l : List α) (x z : α) : (l ++ [x]).getD l.length z = x := by
  simp [List.getD_eq_getElem?_getD]

theorem owns_base {w : World} {b b' : Nat} {e : TypeId} {size : Nat} {v : Value} {n : Nat} {xs : List Value} (h : w.ownsRow b e size v n xs) (hb : ∀ k, v.ownBlock = some k → b' ≤ k) : w.ownsRow b' e size v n xs := by
  refine ⟨h.1, ?_⟩
  rcases h.2 with hn | ⟨g, cap, cur, rfl, _, hgg, rest⟩
  · exact .inl hn
  · exact .inr ⟨g, cap, cur, rfl, hb g rfl, hgg, rest⟩

theorem owns_slice {w : World} {base : Nat} {e : TypeId} {size : Nat} {v : Value} {n : Nat} {xs : List Value} (h : w.ownsRow base e size v n xs) : ∃ a m c, v = .slice a m c := by
  rcases h.2 with ⟨rfl, _⟩ | ⟨g, cap, cur, rfl, _⟩
  · exact ⟨_, _, _, rfl⟩
  · exact ⟨_, _, _, rfl⟩

theorem refput_nil (i : Int) (p : Value) (w : World) (hp : ∃ a n c, p = .slice a n c) :
    Calls Try.prog 18 #[.pointer none, .int .i64 i, p] w fun e w' => e = .returned (.int .i64 6) ∧ w = w' := by
  obtain ⟨a, n, c, rfl⟩ := hp
  go_enter Try.func18, Try.ntmps18
  go_wp2
  go_ret
  exact ⟨rfl, rfl⟩

set_option maxRecDepth 100000 in
set_option maxHeartbeats 4000000 in
theorem refput_any (base : Bs) (rb gd cd : Nat) (wv : Value) (s : Sl) (i : Nat) (pa : Option Addr) (pl pc : Nat) (p : List UInt8) (w : World) (h : RefAt w base rb gd cd wv s) (hi : i < s.n) (hst : s.steps ≤ 1000000) (hwy : s.way.length < 1000000) (ho : s.off = false) (hp : Rd w (.slice pa pl pc) p) (hpl : p.length = pl) (hp2 : pl ≤ 128) (hpb : p ≠ [] → ∀ k, (Value.slice pa pl pc).ownBlock = some k → k ≠ rb) (hP : ∀ g, w.heap.size ≤ g → base.P g) :
    Calls Try.prog 18 #[.pointer (some ⟨rb, 0, none⟩), .int .i64 (i : Int), .slice pa pl pc] w fun e w' => ∃ v', e = .returned (.int .i64 s.stepE) ∧ RefAt w' base rb gd cd v' (s.put i (pad p)).step ∧ Keeps (fun k => k = rb) w w' := by
  have H := hid h
  obtain ⟨c0, c1, c2, c3, c4, hf⟩ := h.cells
  rw [ho] at c2
  have hok := h.okay
  have HOK := hid hok
  have HP := hid hp
  have HPL := hid hpl
  have HS := hid (refstep_any base rb gd cd wv s w h hst)
  have hb1 : (0 : Int) ≤ (i : Int) := by omega
  have hb2 : (i : Int) < (s.n : Int) := by omega
  have hge : ((s.n : Int) ≤ (i : Int)) = False := eq_false (by omega)
  have hpl2 : (pl : Int) ≤ 128 := by omega
  have hz : (128 : Int) - (pl : Int) = ((128 - pl : Nat) : Int) := by omega
  have HPB := hid hpb
  have HO := hid ho
  clear h hf hok hp hpl hpb ho c1 c3 c4
  go_enter Try.func18, Try.ntmps18
  go_wp2_with fail
  refine HS.out.mono ?_
  rintro e w1 ⟨rfl, h1, hk1⟩
  have H1 := hid h1
  have HK1 := hid hk1
  obtain ⟨d0, d1, d2, d3, d4, hf1⟩ := h1.cells
  have f1 := hf1 1
  obtain ⟨PW, HPW⟩ : ∃ PW, WayAt w1 base wv s.way PW := h1.2.2.1
  have HPW1 := hid HPW
  obtain ⟨p1, p2, p3, p4, p5, p6⟩ := h1.apart
  have hbase : base.n ≤ w1.heap.size := by omega
  have HPP := hid hP
  have hs1w := hk1.size
  clear hP
  have HR1 := hid (rd_keepsE HP.out hk1 (fun hne k hk => HPB.out hne k hk))
  have HE0 := hid (World.ownsRow_lit w1 (e := 108) (base := w1.heap.size) (size := 2) #[] 0 (Nat.le_refl _) (Nat.zero_le _) rfl)
  have HSR := hid (show SrcR (w1.alloc (.cells #[] 108)) wv PW from by
    have h2 := HPW.1
    rw [← HPW.2.1] at h2
    exact SrcR.of_own (World.ownsRow.alloc h2 _))
  have HON := hid HPW.one
  have hpn : PW.length < 1000000 := by rw [HPW.2.1]; exact hwy
  have hb0 : Below w1.heap.size w1 (w1.alloc (.cells #[] 108)) := (Below.refl _ _).alloc (Nat.le_refl _) _
  have HB0 := hid hb0
  obtain ⟨of, hof⟩ : ∃ of, of = s.step.off := ⟨_, rfl⟩
  rw [← hof]
  have HOF := hid hof
  clear h1 hk1 hf1 HPW p1 p2 p3 hb0 hof d0 d2 d3 d4 c0 c2
  have hc : (of = true ∧ s.stepE = 13) ∨ (of = false ∧ s.stepE = 0) := by
    by_cases ha : s.armed = 1
    · exact .inl ⟨by rw [HOF.out]; simp [Sl.step, ha], by simp [Sl.stepE, ha]⟩
    · exact .inr ⟨by rw [HOF.out]; simp [Sl.step, ha, HO.out], by simp [Sl.stepE, ha]⟩
  clear HOF
  rcases hc with ⟨hc, hE⟩ | ⟨hc, hE⟩
  · have HE := hid hE
    subst hc
    clear hE
    go_wp2_with (first
      | (at_builtin; (refine appr (by rfl) (.tmp 31) (.tmp 35) rfl w1.heap.size (.slice (some ⟨w1.heap.size, 0, none⟩) 0 0) wv [] PW rfl rfl HE0.out HSR.out HON.out (by simp; omega) (by simp) ?_); intro v2 w2 ho2 hg2; rw [List.nil_append] at ho2; have HO2 := hid ho2; have HB2 := hid (HB0.out.grown hg2 (by simp) (fun k hk => by have : w1.heap.size = k := Option.some.inj hk; omega)); have hs2 := HB2.out.size; have HR2 := hid ((HR1.out.below HB2.out).alloc (.cells #[] 5)); have HE2 := hid (Own.empty w2 w2.heap.size (Nat.le_refl _)); clear ho2 hg2)
      | (at_builtin; (refine appw (by rfl) (.tmp 38) (.tmp 39) rfl w2.heap.size (.slice (some ⟨w2.heap.size, 0, none⟩) 0 0) _ [] p p pl rfl rfl HE2.out HR2.out (by have := HPL.out; simp; omega) rfl (by have := HPL.out; simp; omega) (by simp) ?_); intro ad3 cp3 w3 ho3 hg3; have HO3 := hid ho3; have HB3 := hid (((Below.refl w2.heap.size w2).alloc (Nat.le_refl _) (.cells #[] 5)).grown hg3 (by simp) (fun k hk => by have : w2.heap.size = k := Option.some.inj hk; omega)); have hs3 := HB3.out.size; clear ho3 hg3)
      | (at_builtin; (refine appzw (by rfl) (.tmp 40) (.tmp 43) rfl w2.heap.size (.slice ad3 pl cp3) _ p (pad p) (128 - pl) 128 rfl rfl rfl HO3.out (by have := HPL.out; omega) (by have := HPL.out; subst this; rfl) (by have := HPL.out; omega) (by omega) ?_); intro ad4 cp4 w4 ho4 hg4; have HO4 := hid ho4; have HB4 := hid (HB3.out.grown hg4 hs3 (fun k hk => (HO3.out.lt k hk).1)); have hs4 := HB4.out.size; have HRW := hid (show SrcR (w4.alloc (.cells #[.int .i64 (i : Int), .slice ad4 128 cp4] 108)) (.slice (some ⟨w4.heap.size, 0, none⟩) 1 1) [(i, .slice ad4 128 cp4)] from .inr ⟨⟨w4.heap.size, 0, none⟩, 1, rfl, fun j y hj => by
          rw [Addr.add_lit, cell_of_row _ _ _ _ _ _ (heap_alloc_new w4 _), Nat.zero_add]
          simpa [rwcells] using hj⟩); have HV2 := hid (World.ownsRow.alloc (owns_to HO2.out (fun k hk => HB4.out.block k (World.ownsRow.lt HO2.out k hk).2)) (.cells #[.int .i64 (i : Int), .slice ad4 128 cp4] 108)); clear ho4 hg4)
      | (at_builtin; (refine appr (by rfl) (.tmp 36) (.tmp 46) rfl w1.heap.size v2 (.slice (some ⟨w4.heap.size, 0, none⟩) 1 1) PW [(i, .slice ad4 128 cp4)] rfl rfl HV2.out HRW.out (by simp [Value.oneCell']) (by simp; omega) (by simp; omega) ?_); intro v5 w5 ho5 hg5; obtain ⟨va, vn, vc, ev⟩ := owns_slice ho5; subst ev; have HO5 := hid ho5; have HB5 := hid (((HB2.out.trans (HB4.out.mono hs2)).alloc (by omega) (.cells #[.int .i64 (i : Int), .slice ad4 128 cp4] 108)).grown hg5 (by simp; omega) (fun k hk => (World.ownsRow.lt HO2.out k hk).1)); have hb5 := HB5.out; have h5 := H1.out.below hb5; have e5 := h5.cells.2.1; have f5 := h5.cells.2.2.2.2.2 1; have H5 := hid h5; have HG5 := hid hg5; clear ho5 hg5 hb5 h5)
      | fail)
    have HPV := hid (RowB.of_own (base := base) HO4.out (by rw [pad_length p (by have := HPL.out; omega)]; omega) (fun g hg => HPP.out g (by omega)))
    have HPV5 := hid ((HPV.out.below ((Below.refl _ w4).alloc (Nat.le_refl _) (.cells #[.int .i64 (i : Int), .slice ad4 128 cp4] 108))).keeps (Keeps.of_grown HG5.out) (fun g cs _ hg e => by
      obtain ⟨cur, hc⟩ := owns_type HV2.out g e
      rw [hg] at hc; simp only [Option.some.injEq, Obj.cells.injEq] at hc; exact absurd hc.2.1 (by decide)))
    have HPW5 := hid (show WayAt w5 base (.slice va vn vc) (s.way ++ [(i, pad p)]) (PW ++ [(i, .slice ad4 128 cp4)]) from by
      have hl := HPW1.out.2.1
      refine ⟨?_, by simp [hl], fun j hj => ?_⟩
      · have := owns_base HO5.out (b' := base.n) (fun k hk => by have := (World.ownsRow.lt HO5.out k hk).1; omega)
        rw [List.length_append, hl] at this
        rw [List.length_append]
        exact this
      · rw [List.length_append, List.length_singleton] at hj
        by_cases h2 : j < s.way.length
        · rw [getD_left _ _ _ _ (by omega), getD_left _ _ _ _ h2]
          exact ⟨(HPW1.out.2.2 j h2).1, (HPW1.out.2.2 j h2).2.below HB5.out⟩
        · obtain rfl : j = s.way.length := by omega
          rw [show s.way.length = PW.length from hl.symm, getD_last, hl, getD_last]
          exact ⟨rfl, HPV5.out⟩)
    go_ret
    rw [HE.out]
    refine ⟨_, rfl, H5.out.setway _ _ _ _ HPW5.out rfl rfl rfl rfl rfl rfl ?_, ?_⟩
    · obtain ⟨o1, o2, o3, o4, o5, o6, o7⟩ := Sl.put_ok s i (pad p) HOK.out hi (pad_length p (by have := HPL.out; omega)) hwy
      exact ⟨o1, o2, o3, o4, o5, o6, by have h7 : s.armed ≤ 9223372036854775807 := o7; show s.armed - 1 ≤ _; omega⟩
    · exact (HK1.out.trans' (Keeps.of_below HB5.out (fun k h1 h2 => by omega) : Keeps (fun k => k = rb) w1 w5) (fun k _ e => e)).trans' (keeps_set w5 rb 1 _) (fun k _ e => e)
  · have HE := hid hE
    subst hc
    clear hE
    go_wp2_with (first
      | (at_builtin; (refine appr (by rfl) (.tmp 31) (.tmp 35) rfl w1.heap.size (.slice (some ⟨w1.heap.size, 0, none⟩) 0 0) wv [] PW rfl rfl HE0.out HSR.out HON.out (by simp; omega) (by simp) ?_); intro v2 w2 ho2 hg2; rw [List.nil_append] at ho2; have HO2 := hid ho2; have HB2 := hid (HB0.out.grown hg2 (by simp) (fun k hk => by have : w1.heap.size = k := Option.some.inj hk; omega)); have hs2 := HB2.out.size; have HR2 := hid ((HR1.out.below HB2.out).alloc (.cells #[] 5)); have HE2 := hid (Own.empty w2 w2.heap.size (Nat.le_refl _)); clear ho2 hg2)
      | (at_builtin; (refine appw (by rfl) (.tmp 38) (.tmp 39) rfl w2.heap.size (.slice (some ⟨w2.heap.size, 0, none⟩) 0 0) _ [] p p pl rfl rfl HE2.out HR2.out (by have := HPL.out; simp; omega) rfl (by have := HPL.out; simp; omega) (by simp) ?_); intro ad3 cp3 w3 ho3 hg3; have HO3 := hid ho3; have HB3 := hid (((Below.refl w2.heap.size w2).alloc (Nat.le_refl _) (.cells #[] 5)).grown hg3 (by simp) (fun k hk => by have : w2.heap.size = k := Option.some.inj hk; omega)); have hs3 := HB3.out.size; clear ho3 hg3)
      | (at_builtin; (refine appzw (by rfl) (.tmp 40) (.tmp 43) rfl w2.heap.size (.slice ad3 pl cp3) _ p (pad p) (128 - pl) 128 rfl rfl rfl HO3.out (by have := HPL.out; omega) (by have := HPL.out; subst this; rfl) (by have := HPL.out; omega) (by omega) ?_); intro ad4 cp4 w4 ho4 hg4; have HO4 := hid ho4; have HB4 := hid (HB3.out.grown hg4 hs3 (fun k hk => (HO3.out.lt k hk).1)); have hs4 := HB4.out.size; have HRW := hid (show SrcR (w4.alloc (.cells #[.int .i64 (i : Int), .slice ad4 128 cp4] 108)) (.slice (some ⟨w4.heap.size, 0, none⟩) 1 1) [(i, .slice ad4 128 cp4)] from .inr ⟨⟨w4.heap.size, 0, none⟩, 1, rfl, fun j y hj => by
          rw [Addr.add_lit, cell_of_row _ _ _ _ _ _ (heap_alloc_new w4 _), Nat.zero_add]
          simpa [rwcells] using hj⟩); have HV2 := hid (World.ownsRow.alloc (owns_to HO2.out (fun k hk => HB4.out.block k (World.ownsRow.lt HO2.out k hk).2)) (.cells #[.int .i64 (i : Int), .slice ad4 128 cp4] 108)); clear ho4 hg4)
      | (at_builtin; (refine appr (by rfl) (.tmp 36) (.tmp 46) rfl w1.heap.size v2 (.slice (some ⟨w4.heap.size, 0, none⟩) 1 1) PW [(i, .slice ad4 128 cp4)] rfl rfl HV2.out HRW.out (by simp [Value.oneCell']) (by simp; omega) (by simp; omega) ?_); intro v5 w5 ho5 hg5; obtain ⟨va, vn, vc, ev⟩ := owns_slice ho5; subst ev; have HO5 := hid ho5; have HB5 := hid (((HB2.out.trans (HB4.out.mono hs2)).alloc (by omega) (.cells #[.int .i64 (i : Int), .slice ad4 128 cp4] 108)).grown hg5 (by simp; omega) (fun k hk => (World.ownsRow.lt HO2.out k hk).1)); have hb5 := HB5.out; have h5 := H1.out.below hb5; have e5 := h5.cells.2.1; have f5 := h5.cells.2.2.2.2.2 1; have H5 := hid h5; have HG5 := hid hg5; clear ho5 hg5 hb5 h5)
      | fail)
    have HPV := hid (RowB.of_own (base := base) HO4.out (by rw [pad_length p (by have := HPL.out; omega)]; omega) (fun g hg => HPP.out g (by omega)))
    have HPV5 := hid ((HPV.out.below ((Below.refl _ w4).alloc (Nat.le_refl _) (.cells #[.int .i64 (i : Int), .slice ad4 128 cp4] 108))).keeps (Keeps.of_grown HG5.out) (fun g cs _ hg e => by
      obtain ⟨cur, hc⟩ := owns_type HV2.out g e
      rw [hg] at hc; simp only [Option.some.injEq, Obj.cells.injEq] at hc; exact absurd hc.2.1 (by decide)))
    have HPW5 := hid (show WayAt w5 base (.slice va vn vc) (s.way ++ [(i, pad p)]) (PW ++ [(i, .slice ad4 128 cp4)]) from by
      have hl := HPW1.out.2.1
      refine ⟨?_, by simp [hl], fun j hj => ?_⟩
      · have := owns_base HO5.out (b' := base.n) (fun k hk => by have := (World.ownsRow.lt HO5.out k hk).1; omega)
        rw [List.length_append, hl] at this
        rw [List.length_append]
        exact this
      · rw [List.length_append, List.length_singleton] at hj
        by_cases h2 : j < s.way.length
        · rw [getD_left _ _ _ _ (by omega), getD_left _ _ _ _ h2]
          exact ⟨(HPW1.out.2.2 j h2).1, (HPW1.out.2.2 j h2).2.below HB5.out⟩
        · obtain rfl : j = s.way.length := by omega
          rw [show s.way.length = PW.length from hl.symm, getD_last, hl, getD_last]
          exact ⟨rfl, HPV5.out⟩)
    go_ret
    rw [HE.out]
    refine ⟨_, rfl, H5.out.setway _ _ _ _ HPW5.out rfl rfl rfl rfl rfl rfl ?_, ?_⟩
    · obtain ⟨o1, o2, o3, o4, o5, o6, o7⟩ := Sl.put_ok s i (pad p) HOK.out hi (pad_length p (by have := HPL.out; omega)) hwy
      exact ⟨o1, o2, o3, o4, o5, o6, by have h7 : s.armed ≤ 9223372036854775807 := o7; show s.armed - 1 ≤ _; omega⟩
    · exact (HK1.out.trans' (Keeps.of_below HB5.out (fun k h1 h2 => by omega) : Keeps (fun k => k = rb) w1 w5) (fun k _ e => e)).trans' (keeps_set w5 rb 1 _) (fun k _ e => e)

end Go.Proofs.Ytbchegbamcigkaa
