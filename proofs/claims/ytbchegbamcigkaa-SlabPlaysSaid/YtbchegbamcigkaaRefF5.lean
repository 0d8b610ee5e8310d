/-
  Layer 5: the document's Get whole, and Flush.
-/
import Derived.Test.YtbchegbamcigkaaRefG5
namespace Go.Proofs.Ytbchegbamcigkaa
open Go.RowKit

/-- What Get answers: fresh bytes, or nil. -/
def GotAns (w w' : World) (v : Value) (l : List UInt8) (e : Int) : Prop :=
  (e ≠ 0 ∧ l = [] ∧ v = .slice none 0 0 ∧ w = w') ∨ (e = 0 ∧ l.length = 128 ∧ Own w' w.heap.size v l ∧ Below w.heap.size w w')

theorem GotAns.below {w w' : World} {v : Value} {l : List UInt8} {e : Int} (h : GotAns w w' v l e) : Below w.heap.size w w' := by
  rcases h with ⟨_, _, _, rfl⟩ | ⟨_, _, _, h⟩
  · exact Below.refl _ _
  · exact h
theorem GotAns.rd {w w' : World} {v : Value} {l : List UInt8} {e : Int} (h : GotAns w w' v l e) : Rd w' v l := by
  rcases h with ⟨_, rfl, rfl, _⟩ | ⟨_, _, h, _⟩
  · exact Rd.nil _
  · exact h.rd

theorem refget_all (base : Bs) (rb gd cd : Nat) (wv : Value) (s : Sl) (i : Int) (w : World) (h : RefAt w base rb gd cd wv s) :
    Calls Try.prog 20 #[.pointer (some ⟨rb, 0, none⟩), .int .i64 i] w fun e w' => ∃ v, e = .returned (.tuple #[v, .int .i64 (s.got i).2]) ∧ GotAns w w' v (s.got i).1 (s.got i).2 := by
  obtain ⟨c0, c1, c2, c3, c4, hf⟩ := h.cells
  by_cases h1 : s.has i = false
  · have HE := hid (show s.got i = ([], 1) by unfold Sl.got; rw [if_pos h1])
    clear c1 c2 c3 c4 hf h
    by_cases h2 : i < 0
    · go_enter Try.func20, Try.ntmps20
      go_wp2
      go_ret2
      rw [HE.out]
      exact ⟨_, rfl, .inl ⟨by decide, rfl, rfl, rfl⟩⟩
    · have h3 : (s.n : Int) ≤ i := by simp [Sl.has] at h1; omega
      have h2' : 0 ≤ i := by omega
      go_enter Try.func20, Try.ntmps20
      go_wp2
      go_ret2
      rw [HE.out]
      exact ⟨_, rfl, .inl ⟨by decide, rfl, rfl, rfl⟩⟩
  · have h1' : s.has i = true := by simpa using h1
    have hb : 0 ≤ i ∧ i < (s.n : Int) := by simpa [Sl.has] using h1'
    obtain ⟨j, rfl⟩ := Int.eq_ofNat_of_zero_le hb.1
    have hge : ((s.n : Int) ≤ (j : Int)) = False := eq_false (by omega)
    have hb1 : (0 : Int) ≤ (j : Int) := by omega
    by_cases h3 : s.off = true
    · have HE := hid (show s.got (j : Int) = ([], 13) by unfold Sl.got; rw [if_neg h1, if_pos h3])
      rw [h3] at c2
      clear c1 c3 c4 hf h h1 h1' hb h3
      go_enter Try.func20, Try.ntmps20
      go_wp2
      go_ret2
      rw [HE.out]
      exact ⟨_, rfl, .inl ⟨by decide, rfl, rfl, rfl⟩⟩
    · have HE := hid (show s.got (j : Int) = (lastAt s.way j (sect s.done j), 0) by unfold Sl.got; rw [if_neg h1, if_neg h3, Int.toNat_natCast])
      have hok := h.okay
      refine (refget_any base rb gd cd wv s j w h (by omega) (by simpa using h3)).mono ?_
      rintro e w' ⟨v, rfl, h4, h5⟩
      rw [HE.out]
      exact ⟨v, rfl, .inr ⟨rfl, lastAt_length _ _ _ (sect_length _ _ s.n hok.2.2.2.1 (by omega)) (fun x hx => (hok.2.2.2.2.1 x hx).2), h4, h5⟩⟩

/-- Rows that read as f says. -/
def DoneF (w : World) (base : Bs) (gd cd : Nat) (n : Nat) (f : Nat → List UInt8) (DV : List Value) : Prop :=
  w.ownsRow base.n 31 1 (.slice (some ⟨gd, 0, none⟩) n cd) n DV ∧ ∀ i, i < n → RowB w base (DV.getD i zv) (f i)

theorem DoneF.set {w : World} {base : Bs} {gd cd n : Nat} {f : Nat → List UInt8} {DV : List Value} (h : DoneF w base gd cd n f DV) (i : Nat) (hi : i < n) (v : Value) (l : List UInt8) (hv : RowB w base v l) :
    DoneF (w.setCell ⟨gd, i, none⟩ v) base gd cd n (fun j => if j = i then l else f j) (DV.set i v) := by
  have hl := h.1.1
  obtain ⟨cur, hg⟩ := owns_type h.1 gd rfl
  have hk := keeps_set w gd i v
  have hS : ∀ g cs, base.P g → w.heap[g]? = some (.cells cs 5 (0, 0)) → ¬ g = gd := fun g cs _ hgs e => by
    subst e; rw [hg] at hgs; simp only [Option.some.injEq, Obj.cells.injEq] at hgs; exact absurd hgs.2.1 (by decide)
  refine ⟨(World.ownsRow.stored h.1 i v).1, fun j hj => ?_⟩
  show RowB _ _ _ (if j = i then l else f j)
  by_cases e : j = i
  · subst e
    rw [if_pos rfl, List.getD_eq_getElem?_getD, List.getElem?_set_self (by omega)]
    exact hv.keeps hk hS
  · rw [if_neg e, List.getD_eq_getElem?_getD, List.getElem?_set_ne (fun h => e h.symm), ← List.getD_eq_getElem?_getD]
    exact (h.2 j hj).keeps hk hS

theorem DoneF.below {w w' : World} {base : Bs} {gd cd n : Nat} {f : Nat → List UInt8} {DV : List Value} (h : DoneF w base gd cd n f DV) (hb : Below w.heap.size w w') : DoneF w' base gd cd n f DV :=
  ⟨owns_to h.1 fun k e => hb.block k (World.ownsRow.lt h.1 k e).2, fun i hi => (h.2 i hi).below hb⟩

theorem DoneF.keeps {S : Nat → Prop} {w w' : World} {base : Bs} {gd cd n : Nat} {f : Nat → List UInt8} {DV : List Value} (h : DoneF w base gd cd n f DV) (hk : Keeps S w w') (h1 : ¬ S gd) (hS : ∀ g cs, base.P g → w.heap[g]? = some (.cells cs 5 (0, 0)) → ¬ S g) : DoneF w' base gd cd n f DV :=
  ⟨owns_to h.1 fun k e => hk.block k (World.ownsRow.lt h.1 k e).2 (by have : gd = k := Option.some.inj e; subst this; exact h1), fun i hi => (h.2 i hi).keeps hk hS⟩

theorem DoneF.cell {w : World} {base : Bs} {gd cd n : Nat} {f : Nat → List UInt8} {DV : List Value} (h : DoneF w base gd cd n f DV) (i : Nat) (hi : i < n) : w.cell? ⟨gd, i, none⟩ = some (DV.getD i zv) ∧ w.frozen? ⟨gd, i, none⟩ = false := by
  have hl := h.1.1
  refine ⟨?_, World.ownsRow.frozenAt h.1 i⟩
  rw [World.ownsRow.cellAt (w := w) (g := gd) (cap := cd) (n := n) (xs := DV) ⟨h.1.1, h.1.2⟩ i (by omega), List.getD_eq_getElem?_getD, List.getElem?_eq_getElem (by omega)]
  rfl

theorem DoneF.to {w : World} {base : Bs} {gd cd n : Nat} {f f' : Nat → List UInt8} {DV : List Value} (h : DoneF w base gd cd n f DV) (hf : ∀ i, i < n → f i = f' i) : DoneF w base gd cd n f' DV := ⟨h.1, fun i hi => by rw [← hf i hi]; exact h.2 i hi⟩

/-- A flush, sector by sector, where what is read fits what is under way. -/
theorem flush_sect (s : Sl) (hok : s.ok) (hfit : s.fits) (j : Nat) (hj : j < s.n) : sect s.flush.done j = lastAt s.way j (sect s.done j) := by
  obtain ⟨o1, o2, o3, o4, o5, o6, o7⟩ := hok
  show sect (doneAll s.now s.done s.way) j = _
  rw [doneAll_sect s.now j s.n o3 s.way s.done o4 (fun x hx => (o5 x hx).1)]
  by_cases e : (s.way.any fun x => x.1 == j) = true
  · rw [if_pos e]; exact hfit j hj
  · rw [if_neg e, lastAt_any _ _ _ (eq_false_of_ne_true e)]

theorem refflush_nil (w : World) :
    Calls Try.prog 23 #[.pointer none] w fun e w' => e = .returned (.int .i64 6) ∧ w = w' := by
  go_enter Try.func23, Try.ntmps23
  go_wp2
  go_ret
  exact ⟨rfl, rfl⟩

set_option maxRecDepth 100000 in
set_option maxHeartbeats 4000000 in
theorem refflush_any (base : Bs) (rb gd cd : Nat) (wv : Value) (s : Sl) (w : World) (h : RefAt w base rb gd cd wv s) (hfit : s.fits) (hst : s.steps ≤ 1000000) (ho : s.off = false) (ha : s.armed ≠ 1) (hP : ∀ g, w.heap.size ≤ g → base.P g) :
    Calls Try.prog 23 #[.pointer (some ⟨rb, 0, none⟩)] w fun e w' => e = .returned (.int .i64 0) ∧ RefAt w' base rb gd cd (.slice none 0 0) s.step.flush ∧ Keeps (fun k => k = rb ∨ k = gd) w w' := by
  obtain ⟨c0, c1, c2, c3, c4, hf⟩ := h.cells
  rw [ho] at c2
  have HS := hid (refstep_any base rb gd cd wv s w h hst)
  have HOF := hid (show s.step.off = false by simp [Sl.step, ho, ha])
  obtain ⟨s1, hs1⟩ : ∃ s1, s1 = s.step := ⟨_, rfl⟩
  rw [← hs1] at HS HOF
  have HF1 := hid (show s1.fits by rw [hs1]; exact Sl.step_fits hfit)
  rw [← hs1]
  clear h hf ho ha c0 c1 c3 c4 hs1
  go_enter Try.func23, Try.ntmps23
  go_wp2_with fail
  refine HS.out.mono ?_
  rintro e w1 ⟨rfl, h1, hk1⟩
  rw [HOF.out]
  have H1 := hid h1
  have HK1 := hid hk1
  obtain ⟨d0, d1, d2, d3, d4, hf1⟩ := h1.cells
  have hok := h1.okay
  have HOK := hid hok
  obtain ⟨p1, p2, p3, p4, p5, p6⟩ := h1.apart
  have HAP := hid p2
  have HPP := hid hP
  have hs1w := hk1.size
  clear hP
  have HAT := hid p3
  have hb3 : s1.n ≤ 4096 := hok.2.1
  obtain ⟨DV0, hd0⟩ : ∃ DV, DoneF w1 base gd cd s1.n (fun j => sect s1.done j) DV := h1.2.1
  obtain ⟨PW, hp⟩ := h1.2.2.1
  have HWP := hid hp
  have HD0 := hid hd0
  have hcd : s1.n ≤ cd ∧ cd ≤ 9223372036854775807 := by
    rcases hd0.1.2 with ⟨e, _⟩ | ⟨g, cap, cur, e, _, _, q1, q2, _⟩
    · cases e
    · simp only [Value.slice.injEq] at e
      obtain ⟨_, _, rfl⟩ := e
      unfold maxLen at q2
      omega
  obtain ⟨hcd1, hcd2⟩ := hcd
  obtain ⟨wl, hwl⟩ : ∃ wl, wl = s1.way.length := ⟨_, rfl⟩
  have HWL := hid hwl
  obtain ⟨wa, wn, wc, ewv⟩ := owns_slice hp.1
  have hwn : wn = wl := by
    rw [hwl]
    rcases hp.1.2 with ⟨e, hn⟩ | ⟨g, cap, cur, e, _⟩
    · rw [ewv] at e; simp only [Value.slice.injEq] at e; omega
    · rw [ewv] at e; simp only [Value.slice.injEq] at e; omega
  subst hwn
  subst ewv
  have hwm : wn ≤ 1000000 := by rw [hwl]; exact hok.2.2.2.2.2.1
  clear h1 hf1 hok hd0 hp hwl p2 p3 hk1
  go_wp2_with fail
  go_loopw [21] (fun i' wr => ∃ (k : Nat) (DV : List Value), k ≤ wn ∧ i' = .int .i64 k ∧ Keeps (fun j => j = gd) w1 wr ∧ DoneF wr base gd cd s1.n (fun j => lastAt (s1.way.take k) j (sect s1.done j)) DV) (fun i' _ => wn - (intOf i').toNat)
  case atStart => exact ⟨0, DV0, Nat.zero_le _, rfl, Keeps.refl _ _, HD0.out⟩
  case round =>
    obtain ⟨k, DV, hk, rfl, hkr, hd⟩ := hrel
    have HKR := hid hkr
    have HD := hid hd
    have hsr := hkr.size
    have HRB := hid ((hkr.block rb p5 p1).trans H1.out.1)
    clear hkr hd
    by_cases hlt : k < wn
    · obtain ⟨g, c, ev, hg, hc1, hc2, hat⟩ := HWP.out.at (by have := HWL.out; omega)
      simp only [Value.slice.injEq] at ev
      obtain ⟨e1, e2x, e3⟩ := ev
      clear e2x
      subst e1 e3
      have hgg : g ≠ gd := (HAP.out g rfl).2
      obtain ⟨a0, a1⟩ := hat k (by have := HWL.out; omega)
      have g0 := (HKR.out.cell (p := ⟨g, k * 2, none⟩) hg hgg).trans a0
      have g1 := (HKR.out.cell (p := ⟨g, k * 2 + 1, none⟩) hg hgg).trans a1
      have HRK := hid ((HWP.out.2.2 k (by have := HWL.out; omega)).2.keeps HKR.out (fun q cs _ hq => (HAT.out q cs hq).2.1))
      obtain ⟨x, hx⟩ : ∃ x, x = s1.way.getD k (0, []) := ⟨_, rfl⟩
      have hxm : x ∈ s1.way := by rw [hx]; exact getD_mem _ _ _ (by have := HWL.out; omega)
      have hx1 := (HOK.out.2.2.2.2.1 x hxm).1
      have HX2 := hid (HOK.out.2.2.2.2.1 x hxm).2
      obtain ⟨pk, hpk⟩ : ∃ pk, pk = (PW.getD k (0, zv)).2 := ⟨_, rfl⟩
      rw [← hx] at g0
      rw [← hpk] at g1 HRK
      rw [← hx] at HRK
      have HTK := hid (show ∀ j, lastAt (s1.way.take (k + 1)) j (sect s1.done j) = if x.1 = j then x.2 else lastAt (s1.way.take k) j (sect s1.done j) by
        intro j
        rw [List.take_succ_eq_append_getElem (by have := HWL.out; omega), lastAt_snoc, hx, List.getD_eq_getElem?_getD, List.getElem?_eq_getElem (by have := HWL.out; omega)]
        rfl)
      have hcm : wn ≤ wc := by have := HWL.out; omega
      have hcm2 : wc ≤ 9223372036854775807 := hc2
      obtain ⟨qa, qc, eq⟩ := rd_slice HRK.out.rd
      rw [HX2.out] at eq
      subst eq
      obtain ⟨xi, hxi⟩ : ∃ xi, xi = x.1 := ⟨_, rfl⟩
      rw [← hxi] at g0 HTK hx1
      have hxi1 : (xi : Int) < (s1.n : Int) := by omega
      have hxi0 : (0 : Int) ≤ (xi : Int) := by omega
      clear a0 a1 hat hx hpk hxi hxm d0 d1 d2 d3 d4 c2
      go_wp2_with fail
      obtain ⟨wo, hwo⟩ : ∃ wo, wo = wr.alloc (.cells #[.int .i64 (xi : Int), .slice qa 128 qc] 108) := ⟨_, rfl⟩
      have HGO := hid (show wo.heap[wr.heap.size]? = some (.cells #[.int .i64 (xi : Int), .slice qa 128 qc] 108 (0, 0)) by rw [hwo]; exact heap_alloc_new wr _)
      have hbo : Below wr.heap.size wr wo := by rw [hwo]; exact (Below.refl _ _).alloc (Nat.le_refl _) _
      have HBO := hid hbo
      have hso : wr.heap.size < wo.heap.size := by rw [hwo]; simp
      have e0 : wo.cell? ⟨wr.heap.size, 0, none⟩ = some (.int .i64 (xi : Int)) := (cell_of_row _ _ _ _ _ _ HGO.out).trans rfl
      have e1 : wo.cell? ⟨wr.heap.size, 1, none⟩ = some (.slice qa 128 qc) := (cell_of_row _ _ _ _ _ _ HGO.out).trans rfl
      have HRB2 := hid ((hbo.block rb (by omega)).trans HRB.out)
      have e2 : wo.cell? ⟨rb, 0, none⟩ = some (.slice (some ⟨gd, 0, none⟩) s1.n cd) := (cell_of_row _ _ _ _ _ _ HRB2.out).trans rfl
      have HDo := hid (HD.out.below hbo)
      have HRKo := hid ((HRK.out.rd.below hbo).drew.alloc (.cells #[] 5))
      have HE0 := hid (Own.empty wo.drew wo.heap.size (Nat.le_refl _))
      rw [← hwo]
      clear hwo hbo
      have hrb : rb ≠ gd := p1
      have hwg : wr.heap.size ≠ gd := by omega
      have hrs : rb < wo.heap.size := by omega
      go_region_held3 (fun w' => w'.cell? ⟨rb, 0, none⟩ = some (.slice (some ⟨gd, 0, none⟩) s1.n cd) ∧ w'.cell? ⟨wr.heap.size, 0, none⟩ = some (.int .i64 (xi : Int)) ∧ w'.cell? ⟨wr.heap.size, 1, none⟩ = some (.slice qa 128 qc))
        (first
          | (refine ⟨?_, ?_, ?_⟩ <;> assumption)
          | (refine ⟨?_, ?_, ?_⟩ <;> first | exact (hB3.cell (p := ⟨rb, 0, none⟩) hrs).trans (by assumption) | exact (hB3.cell (p := ⟨wr.heap.size, 0, none⟩) hso).trans (by assumption) | exact (hB3.cell (p := ⟨wr.heap.size, 1, none⟩) hso).trans (by assumption) | fail)
          | (refine ⟨?_, ?_, ?_⟩ <;> first | exact ((keeps_set w3 gd xi _).cell (p := ⟨rb, 0, none⟩) (Nat.lt_of_lt_of_le hrs hB3.size) hrb).trans (by assumption) | exact ((keeps_set w3 gd xi _).cell (p := ⟨wr.heap.size, 0, none⟩) (Nat.lt_of_lt_of_le hso hB3.size) hwg).trans (by assumption) | exact ((keeps_set w3 gd xi _).cell (p := ⟨wr.heap.size, 1, none⟩) (Nat.lt_of_lt_of_le hso hB3.size) hwg).trans (by assumption) | fail)
          | (refine ⟨?_, ?_, ?_⟩ <;> first | exact (((Below.refl wo.heap.size wo.drew).alloc (Nat.le_refl _) _).cell (p := ⟨rb, 0, none⟩) hrs).trans (by assumption) | exact (((Below.refl wo.heap.size wo.drew).alloc (Nat.le_refl _) _).cell (p := ⟨wr.heap.size, 0, none⟩) hso).trans (by assumption) | exact (((Below.refl wo.heap.size wo.drew).alloc (Nat.le_refl _) _).cell (p := ⟨wr.heap.size, 1, none⟩) hso).trans (by assumption) | fail)
          | fail)
        (first | (refine appst (by rfl) (.tmp 31) (.tmp 33) rfl wo.heap.size (.slice (some ⟨wo.heap.size, 0, none⟩) 0 0) _ [] x.2 x.2 128 rfl rfl HE0.out HRKo.out (by have := HX2.out; simp; omega) rfl (by have := HX2.out; simp; omega) (by simp) ?_; intro ad3 cp3 w3 ho3 hg3; have hB3 : Below wo.heap.size wo w3 := (((Below.refl wo.heap.size wo).drew).alloc (Nat.le_refl _) (.cells #[] 5)).grown hg3 (by simp) (fun k hk => by have : wo.heap.size = k := Option.some.inj hk; omega); have HO3 := hid ho3; have HD3 := hid (HDo.out.below hB3); have e3 := (HD3.out.cell xi hx1).1; have f3 := (HD3.out.cell xi hx1).2; have k30 := (hB3.cell (p := ⟨rb, 0, none⟩) hrs).trans e2; have k31 := (hB3.cell (p := ⟨wr.heap.size, 0, none⟩) hso).trans e0; have k32 := (hB3.cell (p := ⟨wr.heap.size, 1, none⟩) hso).trans e1; clear ho3 hg3) | fail)
      have HV3 := hid (RowB.of_own (base := base) HO3.out (by have := HX2.out; omega) (fun g hg => HPP.out g (by omega)))
      have HD4 := hid (HD3.out.set xi hx1 (.slice ad3 128 cp3) x.2 HV3.out)
      have HK4 := hid (show Keeps (fun j => j = gd) w1 (w3.setCell ⟨gd, xi, none⟩ (.slice ad3 128 cp3)) from (HKR.out.trans ((Keeps.of_below HBO.out (fun i h1 h2 => by omega) : Keeps (fun j => j = gd) wr wo).trans (Keeps.of_below hB3 (fun i h1 h2 => by omega)))).trans (keeps_set _ _ _ _))
      go_wp2
      go_roundw
      case rel =>
        refine ⟨k + 1, DV.set xi (.slice ad3 128 cp3), hlt, by go_num, HK4.out, HD4.out.to (fun j hj => ?_)⟩
        show (if j = xi then x.2 else lastAt (s1.way.take k) j (sect s1.done j)) = _
        rw [HTK.out j]
        by_cases e : j = xi
        · rw [if_pos e, if_pos e.symm]
        · rw [if_neg e, if_neg (fun h => e h.symm)]
      case measure => simp [intOf]; omega
    · obtain rfl : k = wn := by omega
      have hall : s1.way.take k = s1.way := List.take_of_length_le (by have := HWL.out; omega)
      rw [hall] at HD
      have e2 : wr.cell? ⟨rb, 1, none⟩ = some (.slice wa k wc) := (cell_of_row _ _ _ _ _ _ HRB.out).trans rfl
      have f2 : wr.frozen? ⟨rb, 1, none⟩ = false := frozen_of_row _ _ _ _ _ HRB.out
      go_wp2
      go_ret
      obtain ⟨o1, o2, o3, o4, o5, o6, o7⟩ := HOK.out
      have hk2 := keeps_set wr rb 1 (.slice none 0 0)
      have hn0 : WayAt (wr.setCell ⟨rb, 1, none⟩ (.slice none 0 0)) base (.slice none 0 0) [] [] := ⟨World.ownsRow_nil _ _ _ _, rfl, fun i hi => absurd hi (by simp)⟩
      have hgt : ∀ q cs, base.P q → wr.heap[q]? = some (.cells cs 5 (0, 0)) → ¬ q = rb := fun q cs _ hq e => by
        subst e; rw [HRB.out] at hq; simp only [Option.some.injEq, Obj.cells.injEq] at hq; exact absurd hq.2.1 (by decide)
      refine ⟨rfl, ⟨(heap_setCell_same _ _ _ _ _ _ HRB.out).trans (by simp [Sl.flush]), ⟨DV, ?_⟩, ⟨[], hn0⟩, H1.out.2.2.2.1, ?_⟩, ?_⟩
      · have := (HD.out.to (f' := fun j => sect s1.flush.done j) (fun j hj => (flush_sect s1 HOK.out HF1.out j hj).symm)).keeps hk2 (fun e => p1 e.symm) hgt
        exact this
      · exact ⟨o1, o2, o3, doneAll_length _ _ o3 _ _ o4 (fun x hx => (o5 x hx).1), (fun x hx => by cases hx), by simp [Sl.flush], o7⟩
      · exact ((HK1.out.mono (fun _ _ e => .inl e)).trans' HKR.out (fun _ _ e => .inr e)).trans' hk2 (fun _ _ e => .inl e)

end Go.Proofs.Ytbchegbamcigkaa
