/-
  Layer 5: the document's Flush whole, and Crash.
-/
import Derived.Test.YtbchegbamcigkaaRefF5
namespace Go.Proofs.Ytbchegbamcigkaa
open Go.RowKit

theorem refflush_all (base : Bs) (rb gd cd : Nat) (wv : Value) (s : Sl) (w : World) (h : RefAt w base rb gd cd wv s) (hfit : s.fits) (hst : s.steps ≤ 1000000) (hP : ∀ g, w.heap.size ≤ g → base.P g) :
    Calls Try.prog 23 #[.pointer (some ⟨rb, 0, none⟩)] w fun e w' => ∃ v', e = .returned (.int .i64 s.flushed.2) ∧ RefAt w' base rb gd cd v' s.flushed.1 ∧ Keeps (fun k => k = rb ∨ k = gd) w w' := by
  by_cases h1 : s.off = true
  · have HE := hid (show s.flushed = (s, 13) by unfold Sl.flushed; rw [if_pos h1])
    obtain ⟨c0, c1, c2, c3, c4, hf⟩ := h.cells
    rw [h1] at c2
    have H := hid h
    clear c0 c1 c3 c4 hf h h1
    go_enter Try.func23, Try.ntmps23
    go_wp2
    go_ret
    rw [HE.out]
    first | exact ⟨wv, rfl, H.out, Keeps.refl _ _⟩ | exact ⟨rfl, ⟨wv, H.out⟩, Keeps.refl _ _⟩
  · by_cases h2 : s.armed = 1
    · have HE := hid (show s.flushed = (s.step, 13) by unfold Sl.flushed; rw [if_neg h1, if_pos h2])
      have HS := hid (refstep_any base rb gd cd wv s w h hst)
      have HOF := hid (show s.step.off = true by simp [Sl.step, h2])
      obtain ⟨c0, c1, c2, c3, c4, hf⟩ := h.cells
      have ho : s.off = false := by simpa using h1
      rw [ho] at c2
      clear c0 c1 c3 c4 hf h h1 h2 ho
      go_enter Try.func23, Try.ntmps23
      go_wp2_with fail
      refine HS.out.mono ?_
      rintro e w1 ⟨rfl, h1, hk1⟩
      rw [HOF.out]
      go_wp2
      go_ret
      rw [HE.out]
      first | exact ⟨wv, rfl, h1, hk1.mono (fun _ _ e => .inl e)⟩ | exact ⟨rfl, ⟨wv, h1⟩, hk1.mono (fun _ _ e => .inl e)⟩
    · have HE := hid (show s.flushed = (s.step.flush, 0) by unfold Sl.flushed; rw [if_neg h1, if_neg h2])
      refine (refflush_any base rb gd cd wv s w h hfit hst (by simpa using h1) h2 hP).mono ?_
      rintro e w1 ⟨rfl, h4, h5⟩
      rw [HE.out]
      exact ⟨_, rfl, h4, h5⟩

/-- Is the byte m written, at the fate f? -/
def mixOn (f : Nat) (cut : Int) (m : Nat) : Prop := f = 1 ∨ (f = 2 ∧ (m : Int) < cut) ∨ (f = 3 ∧ ¬ (m : Int) < cut)
instance (f : Nat) (cut : Int) (m : Nat) : Decidable (mixOn f cut m) := by unfold mixOn; infer_instance
def mixUpto (f : Nat) (cut : Int) (q d : List UInt8) (m : Nat) : List UInt8 := (List.range m).foldl (fun p i => if mixOn f cut i then p.set i (q.getD i 0) else p) d
theorem mixUpto_succ (f : Nat) (cut : Int) (q d : List UInt8) (m : Nat) : mixUpto f cut q d (m + 1) = if mixOn f cut m then (mixUpto f cut q d m).set m (q.getD m 0) else mixUpto f cut q d m := by
  unfold mixUpto
  rw [List.range_succ, List.foldl_append]
  rfl
theorem mixUpto_length (f : Nat) (cut : Int) (q d : List UInt8) : ∀ m, (mixUpto f cut q d m).length = d.length
  | 0 => rfl
  | m + 1 => by
    rw [mixUpto_succ]
    split
    · rw [List.length_set]; exact mixUpto_length f cut q d m
    · exact mixUpto_length f cut q d m
theorem mixUpto_get (f : Nat) (cut : Int) (q d : List UInt8) (hq : q.length = d.length) : ∀ m, m ≤ d.length → ∀ i, (mixUpto f cut q d m)[i]? = if i < m ∧ mixOn f cut i then q[i]? else d[i]?
  | 0, _, i => by rw [if_neg (by omega)]; rfl
  | m + 1, hm, i => by
    have ih := mixUpto_get f cut q d hq m (by omega) i
    have hl := mixUpto_length f cut q d m
    rw [mixUpto_succ]
    by_cases ho : mixOn f cut m
    · rw [if_pos ho]
      by_cases e : i = m
      · subst e
        rw [List.getElem?_set_self (by omega), if_pos ⟨by omega, ho⟩, List.getD_eq_getElem?_getD, List.getElem?_eq_getElem (by omega)]
        rfl
      · rw [List.getElem?_set_ne (fun h => e h.symm), ih]
        by_cases h1 : i < m ∧ mixOn f cut i
        · rw [if_pos h1, if_pos ⟨by omega, h1.2⟩]
        · rw [if_neg h1, if_neg (fun h => h1 ⟨by omega, h.2⟩)]
    · rw [if_neg ho, ih]
      by_cases h1 : i < m ∧ mixOn f cut i
      · rw [if_pos h1, if_pos ⟨by omega, h1.2⟩]
      · rw [if_neg h1, if_neg (fun h => h1 ⟨by
          rcases Nat.lt_or_ge i m with h' | h'
          · exact h'
          · exact absurd (show mixOn f cut m from by rw [show m = i by omega]; exact h.2) ho, h.2⟩)]

theorem mix_torn (fates : List UInt8) (cut : Int) (k : Nat) (q d : List UInt8) (hq : q.length = 128) (hd : d.length = 128) : mixUpto (fateOf fates k) cut q d 128 = tornOne fates (cutOf cut) k q d := by
  have hc := cutOf_le cut
  have hf := fateOf_lt fates k
  have hk := kept_le (fateOf fates k) (cutOf cut) hc
  have hl : ((q.drop (keptFrom (fateOf fates k) (cutOf cut))).take (keptUpto (fateOf fates k) (cutOf cut) - keptFrom (fateOf fates k) (cutOf cut))).length = keptUpto (fateOf fates k) (cutOf cut) - keptFrom (fateOf fates k) (cutOf cut) := by rw [List.length_take, List.length_drop]; omega
  have hcm : ∀ i : Nat, i < 128 → (i < cutOf cut ↔ (i : Int) < cut) := by intro i hi; unfold cutOf; omega
  apply List.ext_getElem?
  intro i
  rw [mixUpto_get _ _ _ _ (by omega) 128 (by omega)]
  unfold tornOne
  rw [splice_get _ _ _ (by omega)]
  by_cases hi : i < 128
  · have hci := hcm i hi
    obtain ⟨f, hff⟩ : ∃ f, f = fateOf fates k := ⟨_, rfl⟩
    rw [← hff] at hf hk hl ⊢
    have hmid : ∀ (a b : Nat), a ≤ i → i < b → b ≤ 128 → ((q.drop a).take (b - a))[i - a]? = q[i]? := by
      intro a b h1 h2 h3
      rw [List.getElem?_take_of_lt (by omega), List.getElem?_drop]
      congr 1
      omega
    by_cases hon : mixOn f cut i
    · rw [if_pos ⟨hi, hon⟩]
      have h1 : keptFrom f (cutOf cut) ≤ i ∧ i < keptUpto f (cutOf cut) := by
        rcases hon with rfl | ⟨rfl, h⟩ | ⟨rfl, h⟩
        · simp [keptFrom, keptUpto]; omega
        · have := hci.2 h; simp [keptFrom, keptUpto]; omega
        · have : ¬ i < cutOf cut := fun h' => h (hci.1 h'); simp [keptFrom, keptUpto]; omega
      rw [if_neg (by omega), if_pos (by omega)]
      exact (hmid _ _ h1.1 h1.2 hk.2).symm
    · rw [if_neg (fun h => hon h.2)]
      have h1 : i < keptFrom f (cutOf cut) ∨ keptUpto f (cutOf cut) ≤ i := by
        have h4 : f = 0 ∨ f = 1 ∨ f = 2 ∨ f = 3 := by omega
        rcases h4 with rfl | rfl | rfl | rfl
        · right; simp [keptUpto]
        · exact absurd (.inl rfl) hon
        · right
          have : ¬ i < cutOf cut := fun h => hon (.inr (.inl ⟨rfl, hci.1 h⟩))
          simp [keptUpto]; omega
        · left
          have : i < cutOf cut := by
            rcases Nat.lt_or_ge i (cutOf cut) with h | h
            · exact h
            · exact absurd (.inr (.inr ⟨rfl, fun h' => by have := hci.2 h'; omega⟩)) hon
          simp [keptFrom]; omega
      rcases h1 with h1 | h1
      · rw [if_pos h1]
      · by_cases h2 : i < keptFrom f (cutOf cut)
        · rw [if_pos h2]
        · rw [if_neg h2, if_neg (by omega)]
  · rw [if_neg (fun h => hi h.1)]
    have e1 : d[i]? = none := List.getElem?_eq_none (by omega)
    rw [e1]
    by_cases h2 : i < keptFrom (fateOf fates k) (cutOf cut)
    · rw [if_pos h2]
    · rw [if_neg h2, if_neg (by omega)]

theorem tornOne_length (fates : List UInt8) (cut k : Nat) (q d : List UInt8) (hc : cut ≤ 128) (hd : d.length = 128) (hq : q.length = 128) : (tornOne fates cut k q d).length = 128 := by
  have := kept_le (fateOf fates k) cut hc
  unfold tornOne
  rw [splice_length _ _ _ (by rw [List.length_take, List.length_drop]; omega), hd]
theorem tornUpto_length (fates : List UInt8) (cut : Nat) (ws : List (Nat × List UInt8)) (j : Nat) (d : List UInt8) (hc : cut ≤ 128) (hd : d.length = 128) (hw : ∀ x ∈ ws, x.2.length = 128) : ∀ k, k ≤ ws.length → (tornUpto fates cut ws j d k).length = 128
  | 0, _ => hd
  | k + 1, hk => by
    rw [tornUpto_succ]
    have ih := tornUpto_length fates cut ws j d hc hd hw k (by omega)
    split
    · exact tornOne_length fates cut k _ _ hc ih (hw _ (getD_mem ws k (0, []) (by omega)))
    · exact ih

theorem refcrash_nil (fv : Value) (cut : Int) (w : World) (hf : ∃ a n c, fv = .slice a n c) :
    Calls Try.prog 27 #[.pointer none, fv, .int .i64 cut] w fun e w' => e = .returned (.int .i64 6) ∧ w = w' := by
  obtain ⟨a, n, c, rfl⟩ := hf
  go_enter Try.func27, Try.ntmps27
  go_wp2
  go_ret
  exact ⟨rfl, rfl⟩

theorem Below.setCell' {B : Nat} {w : World} (g : Nat) (hg : B ≤ g) (j : Nat) (v : Value) : Below B w (w.setCell ⟨g, j, none⟩ v) :=
  ⟨rfl, rfl, rfl, by simp [World.setCell], fun k hk => Below.heap_setCell _ _ _ _ (by show k ≠ g; omega)⟩

set_option maxRecDepth 100000 in
set_option maxHeartbeats 8000000 in
theorem refcrash_any (base : Bs) (rb gd cd : Nat) (wv : Value) (s : Sl) (fv : Value) (fates : List UInt8) (cut : Int) (w : World) (h : RefAt w base rb gd cd wv s) (hrd : Rd w fv fates) (hfb : fates ≠ [] → ∀ k, fv.ownBlock = some k → k ≠ gd) (hP : ∀ g, w.heap.size ≤ g → base.P g) :
    Calls Try.prog 27 #[.pointer (some ⟨rb, 0, none⟩), fv, .int .i64 cut] w fun e w' => e = .returned (.int .i64 0) ∧ RefAt w' base rb gd cd (.slice none 0 0) (s.crash fates cut) ∧ Keeps (fun k => k = rb ∨ k = gd) w w' := by
  obtain ⟨d0, d1, d2, d3, d4, hf1⟩ := h.cells
  have H := hid h
  have hok := h.okay
  have HOK := hid hok
  obtain ⟨p1, p2, p3, p4, p5, p6⟩ := h.apart
  have HAP := hid p2
  have HPP := hid hP
  clear hP
  have HAT := hid p3
  have hb3 : s.n ≤ 4096 := hok.2.1
  obtain ⟨DV0, hd0⟩ : ∃ DV, DoneF w base gd cd s.n (fun j => sect s.done j) DV := h.2.1
  obtain ⟨PW, hp⟩ := h.2.2.1
  have HWP := hid hp
  have HD0 := hid hd0
  have hcd : s.n ≤ cd ∧ cd ≤ 9223372036854775807 := by
    rcases hd0.1.2 with ⟨e, _⟩ | ⟨g, cap, cur, e, _, _, q1, q2, _⟩
    · cases e
    · simp only [Value.slice.injEq] at e
      obtain ⟨_, _, rfl⟩ := e
      unfold maxLen at q2
      omega
  obtain ⟨hcd1, hcd2⟩ := hcd
  obtain ⟨wl, hwl⟩ : ∃ wl, wl = s.way.length := ⟨_, rfl⟩
  have HWL := hid hwl
  obtain ⟨wa, wn, wc, ewv⟩ := owns_slice hp.1
  have hwn : wn = wl := by
    rw [hwl]
    rcases hp.1.2 with ⟨e, hn⟩ | ⟨g, cap, cur, e, _⟩
    · rw [ewv] at e; simp only [Value.slice.injEq] at e; omega
    · rw [ewv] at e; simp only [Value.slice.injEq] at e; omega
  subst hwn
  subst ewv
  have hwm : wn ≤ 1000000 := by rw [hwl]; exact hok.2.2.2.2.2.1
  have HFR := hid hrd
  have HFB := hid hfb
  obtain ⟨fa, fc, hfv, hfl1, hfl2, _⟩ := hrd
  obtain ⟨fl, hfl⟩ : ∃ fl, fl = fates.length := ⟨_, rfl⟩
  rw [← hfl] at hfv hfl1
  unfold maxLen at hfl2
  subst hfv
  have HFL := hid hfl
  clear h hf1 hok hd0 hp hwl p2 p3 hfb hfl
  go_enter Try.func27, Try.ntmps27
  go_wp2_with fail
  go_loopw [20] (fun i' wr => ∃ (k : Nat) (DV : List Value), k ≤ wn ∧ i' = .int .i64 k ∧ Keeps (fun j => j = gd) w wr ∧ DoneF wr base gd cd s.n (fun j => tornUpto fates (cutOf cut) s.way j (sect s.done j) k) DV) (fun i' _ => wn - (intOf i').toNat)
  case atStart => exact ⟨0, DV0, Nat.zero_le _, rfl, Keeps.refl _ _, HD0.out⟩
  case round =>
    obtain ⟨k, DV, hk, rfl, hkr, hd⟩ := hrel
    have HKR := hid hkr
    have HD := hid hd
    have hsr := hkr.size
    have HRB := hid ((hkr.block rb p5 p1).trans H.out.1)
    clear hkr hd
    by_cases hlt : k < wn
    · obtain ⟨g, c, ev, hg, hc1, hc2, hat⟩ := HWP.out.at (by have := HWL.out; omega)
      simp only [Value.slice.injEq] at ev
      obtain ⟨e1, e2x, e3⟩ := ev
      clear e2x
      subst e1 e3
      have hgg : g ≠ gd := (HAP.out g rfl).2
      obtain ⟨a0, a1⟩ := hat k (by have := HWL.out; omega)
      have g0 := (HKR.out.cell (p := ⟨g, k * 2, none⟩) hg hgg).trans a0
      have g1 := (HKR.out.cell (p := ⟨g, k * 2 + 1, none⟩) hg hgg).trans a1
      have HRK := hid ((HWP.out.2.2 k (by have := HWL.out; omega)).2.keeps HKR.out (fun q cs _ hq => (HAT.out q cs hq).2.1))
      obtain ⟨x, hx⟩ : ∃ x, x = s.way.getD k (0, []) := ⟨_, rfl⟩
      have hxm : x ∈ s.way := by rw [hx]; exact getD_mem _ _ _ (by have := HWL.out; omega)
      have hx1 := (HOK.out.2.2.2.2.1 x hxm).1
      have HX2 := hid (HOK.out.2.2.2.2.1 x hxm).2
      obtain ⟨pk, hpk⟩ : ∃ pk, pk = (PW.getD k (0, zv)).2 := ⟨_, rfl⟩
      rw [← hx] at g0
      rw [← hpk] at g1 HRK
      rw [← hx] at HRK
      have HTK := hid (show ∀ j, tornUpto fates (cutOf cut) s.way j (sect s.done j) (k + 1) = if j = x.1 then tornOne fates (cutOf cut) k x.2 (tornUpto fates (cutOf cut) s.way j (sect s.done j) k) else tornUpto fates (cutOf cut) s.way j (sect s.done j) k by
        intro j
        rw [tornUpto_succ, ← hx])
      have hcm : wn ≤ wc := by have := HWL.out; omega
      have hcm2 : wc ≤ 9223372036854775807 := hc2
      obtain ⟨qa, qc, eq⟩ := rd_slice HRK.out.rd
      rw [HX2.out] at eq
      subst eq
      obtain ⟨xi, hxi⟩ : ∃ xi, xi = x.1 := ⟨_, rfl⟩
      rw [← hxi] at g0 HTK hx1
      have hxi1 : (xi : Int) < (s.n : Int) := by omega
      have hxi0 : (0 : Int) ≤ (xi : Int) := by omega
      obtain ⟨f, hff⟩ : ∃ f, f = fateOf fates k := ⟨_, rfl⟩
      have hf4 : f < 4 := by rw [hff]; exact fateOf_lt _ _
      have HFF := hid hff
      have HFW := hid (rd_keepsE HFR.out HKR.out (fun hne q hq => HFB.out hne q hq))
      clear a0 a1 hat hx hpk hxi hxm d0 d1 d2 d3 d4 hff
      have hA : ∃ y : Nat, (k < fl → ∃ b off, fa = some ⟨b, off, none⟩ ∧ wr.cell? ⟨b, off + k, none⟩ = some (.int .u8 (y : Int)) ∧ y % 4 = f) ∧ (¬ k < fl → f = 0) := by
        by_cases hkl : k < fl
        · obtain ⟨b, off, cap, ev, _, _, _, hcs⟩ := HFW.out.pos (by have := HFL.out; omega)
          simp only [Value.slice.injEq] at ev
          have := hcs k (by have := HFL.out; omega)
          exact ⟨(fates.getD k 0).toNat, fun _ => ⟨b, off, ev.1, this, by rw [HFF.out]; unfold fateOf; rw [if_pos (by have := HFL.out; omega)]⟩, fun h => absurd hkl h⟩
        · exact ⟨0, fun h => absurd h hkl, fun _ => by rw [HFF.out]; unfold fateOf; rw [if_neg (by have := HFL.out; omega)]⟩
      obtain ⟨y, hy1, hy2⟩ := hA
      have hparts : (k < fl ∧ ∃ b off, fa = some ⟨b, off, none⟩ ∧ wr.cell? ⟨b, off + k, none⟩ = some (.int .u8 (y : Int)) ∧ y % 4 = f) ∨ (¬ k < fl ∧ f = 0) := by
        by_cases hkl : k < fl
        · exact .inl ⟨hkl, hy1 hkl⟩
        · exact .inr ⟨hkl, hy2 hkl⟩
      clear hy1 hy2
      have HMORE := hid True.intro
      rcases hparts with ⟨hkl, fb, foff, efa, hyc, hyf⟩ | ⟨hkl, hf0⟩
      · subst efa
        have hyi : (y : Int) % 4 = (f : Int) := by omega
        have hkli : (k : Int) < (fl : Int) := by omega
        have hyo : (wr.alloc (.cells #[.int .i64 (xi : Int), .slice qa 128 qc] 108)).cell? ⟨fb, foff + k, none⟩ = some (.int .u8 (y : Int)) := (((Below.refl wr.heap.size wr).alloc (Nat.le_refl _) _).cell (p := ⟨fb, foff + k, none⟩) (by have := World.block_lt_of_cell? _ _ hyc; exact this)).trans hyc
        clear hyf
        go_wp2_with fail
        obtain ⟨wo, hwo⟩ : ∃ wo, wo = wr.alloc (.cells #[.int .i64 (xi : Int), .slice qa 128 qc] 108) := ⟨_, rfl⟩
        have HGO := hid (show wo.heap[wr.heap.size]? = some (.cells #[.int .i64 (xi : Int), .slice qa 128 qc] 108 (0, 0)) by rw [hwo]; exact heap_alloc_new wr _)
        have hbo : Below wr.heap.size wr wo := by rw [hwo]; exact (Below.refl _ _).alloc (Nat.le_refl _) _
        have HBO := hid hbo
        have hso : wr.heap.size < wo.heap.size := by rw [hwo]; simp
        have e0 : wo.cell? ⟨wr.heap.size, 0, none⟩ = some (.int .i64 (xi : Int)) := (cell_of_row _ _ _ _ _ _ HGO.out).trans rfl
        have e1 : wo.cell? ⟨wr.heap.size, 1, none⟩ = some (.slice qa 128 qc) := (cell_of_row _ _ _ _ _ _ HGO.out).trans rfl
        have HRB2 := hid ((hbo.block rb (by omega)).trans HRB.out)
        have e2 : wo.cell? ⟨rb, 0, none⟩ = some (.slice (some ⟨gd, 0, none⟩) s.n cd) := (cell_of_row _ _ _ _ _ _ HRB2.out).trans rfl
        have HDo := hid (HD.out.below hbo)
        obtain ⟨D, hD⟩ : ∃ D, D = tornUpto fates (cutOf cut) s.way xi (sect s.done xi) k := ⟨_, rfl⟩
        have HDD := hid hD
        have HDL := hid (show D.length = 128 by rw [hD]; exact tornUpto_length _ _ _ _ _ (cutOf_le cut) (sect_length _ _ _ HOK.out.2.2.2.1 hx1) (fun z hz => (HOK.out.2.2.2.2.1 z hz).2) k (by have := HWL.out; omega))
        have HRD := hid (show RowB wo base (DV.getD xi zv) D by rw [hD]; exact HDo.out.2 xi hx1)
        obtain ⟨dv, hdv⟩ : ∃ dv, dv = DV.getD xi zv := ⟨_, rfl⟩
        rw [← hdv] at HRD
        have e4 : wo.cell? ⟨gd, xi, none⟩ = some dv := by rw [hdv]; exact (HDo.out.cell xi hx1).1
        obtain ⟨da, dc, edv⟩ := rd_slice HRD.out.rd
        rw [HDL.out] at edv
        subst edv
        have HRDo := hid ((HRD.out.rd).drew.alloc (.cells #[] 5))
        have HE0 := hid (Own.empty wo.drew wo.heap.size (Nat.le_refl _))
        rw [← hwo]
        clear hwo hbo hD hdv
        have hrb : rb ≠ gd := p1
        have hwg : wr.heap.size ≠ gd := by omega
        have hrs : rb < wo.heap.size := by omega
        have hgs : gd < wo.heap.size := by omega
        go_region_held3 (fun w' => w'.cell? ⟨rb, 0, none⟩ = some (.slice (some ⟨gd, 0, none⟩) s.n cd) ∧ w'.cell? ⟨wr.heap.size, 0, none⟩ = some (.int .i64 (xi : Int)) ∧ w'.cell? ⟨gd, xi, none⟩ = some (.slice da 128 dc))
          (first
            | (refine ⟨?_, ?_, ?_⟩ <;> assumption)
            | (refine ⟨?_, ?_, ?_⟩ <;> first | exact (hB3.cell (p := ⟨rb, 0, none⟩) hrs).trans (by assumption) | exact (hB3.cell (p := ⟨wr.heap.size, 0, none⟩) hso).trans (by assumption) | exact (hB3.cell (p := ⟨gd, xi, none⟩) hgs).trans (by assumption) | fail)
            | (refine ⟨?_, ?_, ?_⟩ <;> first | exact (((Below.refl wo.heap.size wo.drew).alloc (Nat.le_refl _) _).cell (p := ⟨rb, 0, none⟩) hrs).trans (by assumption) | exact (((Below.refl wo.heap.size wo.drew).alloc (Nat.le_refl _) _).cell (p := ⟨wr.heap.size, 0, none⟩) hso).trans (by assumption) | exact (((Below.refl wo.heap.size wo.drew).alloc (Nat.le_refl _) _).cell (p := ⟨gd, xi, none⟩) hgs).trans (by assumption) | fail)
            | fail)
          (first | (refine appst (by rfl) (.tmp 34) (.tmp 42) rfl wo.heap.size (.slice (some ⟨wo.heap.size, 0, none⟩) 0 0) _ [] D D 128 rfl rfl HE0.out HRDo.out (by have := HDL.out; simp; omega) rfl (by have := HDL.out; simp; omega) (by simp) ?_; intro ad3 cp3 w3 ho3 hg3; have hB3 : Below wo.heap.size wo w3 := (((Below.refl wo.heap.size wo).drew).alloc (Nat.le_refl _) (.cells #[] 5)).grown hg3 (by simp) (fun k hk => by have : wo.heap.size = k := Option.some.inj hk; omega); have HO3 := hid ho3; clear ho3 hg3) | fail)
        obtain ⟨gw, cw, egw⟩ := own_head HO3.out (by have := HDL.out; omega)
        simp only [Value.slice.injEq] at egw
        obtain ⟨egw1, _, egw2⟩ := egw
        subst egw1 egw2
        have hgw : wo.heap.size ≤ gw := (HO3.out.lt gw rfl).1
        have hgw2 : gw < w3.heap.size := (HO3.out.lt gw rfl).2
        have HB3 := hid hB3
        have hcp := HO3.out.caps
        obtain ⟨hcp0, hcp1, hcp2⟩ := hcp
        obtain ⟨_, gq, cq, csq, egq, _, hgq⟩ := HRK.out
        have HGQ := hid hgq
        have hgq2 : gq < wr.heap.size := (Array.getElem?_eq_some_iff.1 hgq).1
        clear hB3 e4 hcp0 hgq
        go_wp2_with fail
        obtain ⟨wq, hwq⟩ : ∃ wq, wq = wr := ⟨_, rfl⟩
        subst hwq
        go_loopw [46] (fun j' wi => ∃ m : Nat, m ≤ 128 ∧ j' = .int .i64 m ∧ Own wi wo.heap.size (.slice (some ⟨gw, 0, none⟩) 128 cp3) (mixUpto f cut x.2 D m) ∧ gw < wi.heap.size ∧ Below wo.heap.size wo wi) (fun j' _ => 128 - (intOf j').toNat)
        case atStart => exact ⟨0, Nat.zero_le _, rfl, HO3.out, hgw2, HB3.out⟩
        case round =>
          obtain ⟨m, hm, rfl, hpo, hgi, hbi⟩ := hrel
          have HPO := hid hpo
          have HBI := hid hbi
          have hsi := hbi.size
          clear hpo hbi
          by_cases hm8 : m < 128
          · have HML := hid (mixUpto_length f cut x.2 D m)
            have k1 : wq.heap.size < wo.heap.size := hso
            have i1 := (HBI.out.cell (p := ⟨wq.heap.size, 1, none⟩) hso).trans e1
            have HRi := hid ((HRK.out.rd.below HBO.out).below HBI.out)
            obtain ⟨yz, hyz⟩ : ∃ yz : Int, yz = ((x.2.getD m 0).toNat : Int) := ⟨_, rfl⟩
            have HYZ := hid hyz
            obtain ⟨qb, qoff, qcap, eqv, hqc1, hqc2, _, hqs⟩ := HRi.out.pos (by have := HX2.out; omega)
            simp only [Value.slice.injEq] at eqv
            obtain ⟨eq1, _, eq2⟩ := eqv
            have i2 := hqs m (by have := HX2.out; omega)
            unfold bv at i2
            rw [← hyz] at i2
            subst eq1
            have i3 := HPO.out.cell m (by have := HML.out; have := HDL.out; omega)
            have i4 := HPO.out.frozen m
            have hqc3 : 128 ≤ qc := by have := HX2.out; omega
            have hqc4 : qc ≤ 9223372036854775807 := by unfold maxLen at hqc2; omega
            have hmi : (m : Int) < 128 := by omega
            clear hqs hyz hqc1 hqc2
            rcases (show f = 0 ∨ f = 1 ∨ f = 2 ∨ f = 3 by omega) with hfq | hfq | hfq | hfq
            · subst hfq
              have HMS := hid (show mixUpto 0 cut x.2 D (m + 1) = mixUpto 0 cut x.2 D m by rw [mixUpto_succ, if_neg (by simp [mixOn])])
              go_wp2_with fail
              go_roundw
              case rel => exact ⟨m + 1, by omega, by go_num, by rw [HMS.out]; exact HPO.out, hgi, HBI.out⟩
              case measure => simp [intOf]; omega
            · subst hfq
              have HMS := hid (show mixUpto 1 cut x.2 D (m + 1) = (mixUpto 1 cut x.2 D m).set m (x.2.getD m 0) by rw [mixUpto_succ, if_pos (by simp [mixOn])])
              have HST := hid (HPO.out.stored m (x.2.getD m 0) yz HYZ.out)
              go_wp2_with fail
              go_roundw
              case rel => exact ⟨m + 1, by omega, by go_num, by rw [HMS.out]; exact HST.out, by simp [World.setCell]; omega, HBI.out.trans (Below.setCell' _ hgw _ _)⟩
              case measure => simp [intOf]; omega
            · subst hfq
              by_cases hcut : (m : Int) < cut
              · have hlc : ((m : Int) < cut) = True := eq_true hcut
                have HMS := hid (show mixUpto 2 cut x.2 D (m + 1) = (mixUpto 2 cut x.2 D m).set m (x.2.getD m 0) by rw [mixUpto_succ, if_pos (by simp [mixOn, hcut])])
                clear hcut
                have HST := hid (HPO.out.stored m (x.2.getD m 0) yz HYZ.out)
                go_wp2_with fail
                go_roundw
                case rel => exact ⟨m + 1, by omega, by go_num, by rw [HMS.out]; exact HST.out, by simp [World.setCell]; omega, HBI.out.trans (Below.setCell' _ hgw _ _)⟩
                case measure => simp [intOf]; omega
              · have hlc : ((m : Int) < cut) = False := eq_false hcut
                have HMS := hid (show mixUpto 2 cut x.2 D (m + 1) = mixUpto 2 cut x.2 D m by rw [mixUpto_succ, if_neg (by simp [mixOn, hcut])])
                clear hcut
                go_wp2_with fail
                go_roundw
                case rel => exact ⟨m + 1, by omega, by go_num, by rw [HMS.out]; exact HPO.out, hgi, HBI.out⟩
                case measure => simp [intOf]; omega
            · subst hfq
              by_cases hcut : (m : Int) < cut
              · have hlc : ((m : Int) < cut) = True := eq_true hcut
                have HMS := hid (show mixUpto 3 cut x.2 D (m + 1) = mixUpto 3 cut x.2 D m by rw [mixUpto_succ, if_neg (by simp [mixOn, hcut])])
                clear hcut
                go_wp2_with fail
                go_roundw
                case rel => exact ⟨m + 1, by omega, by go_num, by rw [HMS.out]; exact HPO.out, hgi, HBI.out⟩
                case measure => simp [intOf]; omega
              · have hlc : ((m : Int) < cut) = False := eq_false hcut
                have HMS := hid (show mixUpto 3 cut x.2 D (m + 1) = (mixUpto 3 cut x.2 D m).set m (x.2.getD m 0) by rw [mixUpto_succ, if_pos (by simp [mixOn, hcut])])
                clear hcut
                have HST := hid (HPO.out.stored m (x.2.getD m 0) yz HYZ.out)
                go_wp2_with fail
                go_roundw
                case rel => exact ⟨m + 1, by omega, by go_num, by rw [HMS.out]; exact HST.out, by simp [World.setCell]; omega, HBI.out.trans (Below.setCell' _ hgw _ _)⟩
                case measure => simp [intOf]; omega
          · obtain rfl : m = 128 := by omega
            have HMX := hid (mix_torn fates cut k x.2 D HX2.out HDL.out)
            have HRBi := hid ((HBI.out.block rb hrs).trans HRB2.out)
            have i2 : wr.cell? ⟨rb, 0, none⟩ = some (.slice (some ⟨gd, 0, none⟩) s.n cd) := (cell_of_row _ _ _ _ _ _ HRBi.out).trans rfl
            have i0 := (HBI.out.cell (p := ⟨wq.heap.size, 0, none⟩) hso).trans e0
            have HDi := hid (HDo.out.below HBI.out)
            have i4 := (HDi.out.cell xi hx1).1
            have f4 := (HDi.out.cell xi hx1).2
            have hwg2 : gw ≠ gd := by omega
            have HPR := hid (RowB.of_own (base := base) HPO.out (by rw [mixUpto_length]; have := HDL.out; omega) (fun g hg => HPP.out g (by omega)))
            go_wp2_with fail
            go_region_held3 (fun w' => w'.cell? ⟨rb, 0, none⟩ = some (.slice (some ⟨gd, 0, none⟩) s.n cd) ∧ w'.cell? ⟨wq.heap.size, 0, none⟩ = some (.int .i64 (xi : Int)))
              (first
                | (refine ⟨?_, ?_⟩ <;> assumption)
                | (refine ⟨?_, ?_⟩ <;> first | exact ((keeps_set wr.drew gd xi _).cell (p := ⟨rb, 0, none⟩) (Nat.lt_of_lt_of_le hrs hsi) hrb).trans (by assumption) | exact ((keeps_set wr.drew gd xi _).cell (p := ⟨wq.heap.size, 0, none⟩) (Nat.lt_of_lt_of_le hso hsi) hwg).trans (by assumption) | fail)
                | fail)
              (fail)
            have HMX2 := hid ((congrArg (fun z => mixUpto z cut x.2 D 128) HFF.out).trans HMX.out)
            have HD4 := hid (DoneF.set (w := wr.drew) HDi.out xi hx1 (.slice (some ⟨gw, 0, none⟩) 128 cp3) _ HPR.out)
            have HK4 := hid (show Keeps (fun j => j = gd) w (wr.drew.setCell ⟨gd, xi, none⟩ (.slice (some ⟨gw, 0, none⟩) 128 cp3)) from (HKR.out.trans (((Keeps.of_below HBO.out (fun i h1 h2 => by omega) : Keeps (fun j => j = gd) wq wo).trans (Keeps.of_below HBI.out (fun i h1 h2 => by omega))).drew)).trans (keeps_set _ _ _ _))
            go_wp2_with fail
            go_roundw
            case rel =>
              refine ⟨k + 1, DV.set xi (.slice (some ⟨gw, 0, none⟩) 128 cp3), hlt, by go_num, HK4.out, HD4.out.to (fun j hj => ?_)⟩
              show (if j = xi then mixUpto f cut x.2 D 128 else tornUpto fates (cutOf cut) s.way j (sect s.done j) k) = _
              rw [HTK.out j]
              by_cases e : j = xi
              · rw [if_pos e, if_pos e, HMX2.out, HDD.out, e]
              · rw [if_neg e, if_neg e]
            case measure => simp [intOf]; omega
      · subst hf0
        have hkli : ((k : Int) < (fl : Int)) = False := eq_false (by omega)
        clear hkl
        go_wp2_with fail
        obtain ⟨wo, hwo⟩ : ∃ wo, wo = wr.alloc (.cells #[.int .i64 (xi : Int), .slice qa 128 qc] 108) := ⟨_, rfl⟩
        have HGO := hid (show wo.heap[wr.heap.size]? = some (.cells #[.int .i64 (xi : Int), .slice qa 128 qc] 108 (0, 0)) by rw [hwo]; exact heap_alloc_new wr _)
        have hbo : Below wr.heap.size wr wo := by rw [hwo]; exact (Below.refl _ _).alloc (Nat.le_refl _) _
        have HBO := hid hbo
        have hso : wr.heap.size < wo.heap.size := by rw [hwo]; simp
        have e0 : wo.cell? ⟨wr.heap.size, 0, none⟩ = some (.int .i64 (xi : Int)) := (cell_of_row _ _ _ _ _ _ HGO.out).trans rfl
        have e1 : wo.cell? ⟨wr.heap.size, 1, none⟩ = some (.slice qa 128 qc) := (cell_of_row _ _ _ _ _ _ HGO.out).trans rfl
        have HRB2 := hid ((hbo.block rb (by omega)).trans HRB.out)
        have e2 : wo.cell? ⟨rb, 0, none⟩ = some (.slice (some ⟨gd, 0, none⟩) s.n cd) := (cell_of_row _ _ _ _ _ _ HRB2.out).trans rfl
        have HDo := hid (HD.out.below hbo)
        obtain ⟨D, hD⟩ : ∃ D, D = tornUpto fates (cutOf cut) s.way xi (sect s.done xi) k := ⟨_, rfl⟩
        have HDD := hid hD
        have HDL := hid (show D.length = 128 by rw [hD]; exact tornUpto_length _ _ _ _ _ (cutOf_le cut) (sect_length _ _ _ HOK.out.2.2.2.1 hx1) (fun z hz => (HOK.out.2.2.2.2.1 z hz).2) k (by have := HWL.out; omega))
        have HRD := hid (show RowB wo base (DV.getD xi zv) D by rw [hD]; exact HDo.out.2 xi hx1)
        obtain ⟨dv, hdv⟩ : ∃ dv, dv = DV.getD xi zv := ⟨_, rfl⟩
        rw [← hdv] at HRD
        have e4 : wo.cell? ⟨gd, xi, none⟩ = some dv := by rw [hdv]; exact (HDo.out.cell xi hx1).1
        obtain ⟨da, dc, edv⟩ := rd_slice HRD.out.rd
        rw [HDL.out] at edv
        subst edv
        have HRDo := hid ((HRD.out.rd).drew.alloc (.cells #[] 5))
        have HE0 := hid (Own.empty wo.drew wo.heap.size (Nat.le_refl _))
        rw [← hwo]
        clear hwo hbo hD hdv
        have hrb : rb ≠ gd := p1
        have hwg : wr.heap.size ≠ gd := by omega
        have hrs : rb < wo.heap.size := by omega
        have hgs : gd < wo.heap.size := by omega
        go_region_held3 (fun w' => w'.cell? ⟨rb, 0, none⟩ = some (.slice (some ⟨gd, 0, none⟩) s.n cd) ∧ w'.cell? ⟨wr.heap.size, 0, none⟩ = some (.int .i64 (xi : Int)) ∧ w'.cell? ⟨gd, xi, none⟩ = some (.slice da 128 dc))
          (first
            | (refine ⟨?_, ?_, ?_⟩ <;> assumption)
            | (refine ⟨?_, ?_, ?_⟩ <;> first | exact (hB3.cell (p := ⟨rb, 0, none⟩) hrs).trans (by assumption) | exact (hB3.cell (p := ⟨wr.heap.size, 0, none⟩) hso).trans (by assumption) | exact (hB3.cell (p := ⟨gd, xi, none⟩) hgs).trans (by assumption) | fail)
            | (refine ⟨?_, ?_, ?_⟩ <;> first | exact (((Below.refl wo.heap.size wo.drew).alloc (Nat.le_refl _) _).cell (p := ⟨rb, 0, none⟩) hrs).trans (by assumption) | exact (((Below.refl wo.heap.size wo.drew).alloc (Nat.le_refl _) _).cell (p := ⟨wr.heap.size, 0, none⟩) hso).trans (by assumption) | exact (((Below.refl wo.heap.size wo.drew).alloc (Nat.le_refl _) _).cell (p := ⟨gd, xi, none⟩) hgs).trans (by assumption) | fail)
            | fail)
          (first | (refine appst (by rfl) (.tmp 34) (.tmp 42) rfl wo.heap.size (.slice (some ⟨wo.heap.size, 0, none⟩) 0 0) _ [] D D 128 rfl rfl HE0.out HRDo.out (by have := HDL.out; simp; omega) rfl (by have := HDL.out; simp; omega) (by simp) ?_; intro ad3 cp3 w3 ho3 hg3; have hB3 : Below wo.heap.size wo w3 := (((Below.refl wo.heap.size wo).drew).alloc (Nat.le_refl _) (.cells #[] 5)).grown hg3 (by simp) (fun k hk => by have : wo.heap.size = k := Option.some.inj hk; omega); have HO3 := hid ho3; clear ho3 hg3) | fail)
        obtain ⟨gw, cw, egw⟩ := own_head HO3.out (by have := HDL.out; omega)
        simp only [Value.slice.injEq] at egw
        obtain ⟨egw1, _, egw2⟩ := egw
        subst egw1 egw2
        have hgw : wo.heap.size ≤ gw := (HO3.out.lt gw rfl).1
        have hgw2 : gw < w3.heap.size := (HO3.out.lt gw rfl).2
        have HB3 := hid hB3
        have hcp := HO3.out.caps
        obtain ⟨hcp0, hcp1, hcp2⟩ := hcp
        obtain ⟨_, gq, cq, csq, egq, _, hgq⟩ := HRK.out
        have HGQ := hid hgq
        have hgq2 : gq < wr.heap.size := (Array.getElem?_eq_some_iff.1 hgq).1
        clear hB3 e4 hcp0 hgq
        go_wp2_with fail
        obtain ⟨wq, hwq⟩ : ∃ wq, wq = wr := ⟨_, rfl⟩
        subst hwq
        go_loopw [46] (fun j' wi => ∃ m : Nat, m ≤ 128 ∧ j' = .int .i64 m ∧ Own wi wo.heap.size (.slice (some ⟨gw, 0, none⟩) 128 cp3) (mixUpto 0 cut x.2 D m) ∧ gw < wi.heap.size ∧ Below wo.heap.size wo wi) (fun j' _ => 128 - (intOf j').toNat)
        case atStart => exact ⟨0, Nat.zero_le _, rfl, HO3.out, hgw2, HB3.out⟩
        case round =>
          obtain ⟨m, hm, rfl, hpo, hgi, hbi⟩ := hrel
          have HPO := hid hpo
          have HBI := hid hbi
          have hsi := hbi.size
          clear hpo hbi
          by_cases hm8 : m < 128
          · have HML := hid (mixUpto_length 0 cut x.2 D m)
            have k1 : wq.heap.size < wo.heap.size := hso
            have i1 := (HBI.out.cell (p := ⟨wq.heap.size, 1, none⟩) hso).trans e1
            have HRi := hid ((HRK.out.rd.below HBO.out).below HBI.out)
            obtain ⟨yz, hyz⟩ : ∃ yz : Int, yz = ((x.2.getD m 0).toNat : Int) := ⟨_, rfl⟩
            have HYZ := hid hyz
            obtain ⟨qb, qoff, qcap, eqv, hqc1, hqc2, _, hqs⟩ := HRi.out.pos (by have := HX2.out; omega)
            simp only [Value.slice.injEq] at eqv
            obtain ⟨eq1, _, eq2⟩ := eqv
            have i2 := hqs m (by have := HX2.out; omega)
            unfold bv at i2
            rw [← hyz] at i2
            subst eq1
            have i3 := HPO.out.cell m (by have := HML.out; have := HDL.out; omega)
            have i4 := HPO.out.frozen m
            have hqc3 : 128 ≤ qc := by have := HX2.out; omega
            have hqc4 : qc ≤ 9223372036854775807 := by unfold maxLen at hqc2; omega
            have hmi : (m : Int) < 128 := by omega
            clear hqs hyz hqc1 hqc2
            have HMS := hid (show mixUpto 0 cut x.2 D (m + 1) = mixUpto 0 cut x.2 D m by rw [mixUpto_succ, if_neg (by simp [mixOn])])
            go_wp2_with fail
            go_roundw
            case rel => exact ⟨m + 1, by omega, by go_num, by rw [HMS.out]; exact HPO.out, hgi, HBI.out⟩
            case measure => simp [intOf]; omega
          · obtain rfl : m = 128 := by omega
            have HMX := hid (mix_torn fates cut k x.2 D HX2.out HDL.out)
            have HRBi := hid ((HBI.out.block rb hrs).trans HRB2.out)
            have i2 : wr.cell? ⟨rb, 0, none⟩ = some (.slice (some ⟨gd, 0, none⟩) s.n cd) := (cell_of_row _ _ _ _ _ _ HRBi.out).trans rfl
            have i0 := (HBI.out.cell (p := ⟨wq.heap.size, 0, none⟩) hso).trans e0
            have HDi := hid (HDo.out.below HBI.out)
            have i4 := (HDi.out.cell xi hx1).1
            have f4 := (HDi.out.cell xi hx1).2
            have hwg2 : gw ≠ gd := by omega
            have HPR := hid (RowB.of_own (base := base) HPO.out (by rw [mixUpto_length]; have := HDL.out; omega) (fun g hg => HPP.out g (by omega)))
            go_wp2_with fail
            go_region_held3 (fun w' => w'.cell? ⟨rb, 0, none⟩ = some (.slice (some ⟨gd, 0, none⟩) s.n cd) ∧ w'.cell? ⟨wq.heap.size, 0, none⟩ = some (.int .i64 (xi : Int)))
              (first
                | (refine ⟨?_, ?_⟩ <;> assumption)
                | (refine ⟨?_, ?_⟩ <;> first | exact ((keeps_set wr.drew gd xi _).cell (p := ⟨rb, 0, none⟩) (Nat.lt_of_lt_of_le hrs hsi) hrb).trans (by assumption) | exact ((keeps_set wr.drew gd xi _).cell (p := ⟨wq.heap.size, 0, none⟩) (Nat.lt_of_lt_of_le hso hsi) hwg).trans (by assumption) | fail)
                | fail)
              (fail)
            have HMX2 := hid ((congrArg (fun z => mixUpto z cut x.2 D 128) HFF.out).trans HMX.out)
            have HD4 := hid (DoneF.set (w := wr.drew) HDi.out xi hx1 (.slice (some ⟨gw, 0, none⟩) 128 cp3) _ HPR.out)
            have HK4 := hid (show Keeps (fun j => j = gd) w (wr.drew.setCell ⟨gd, xi, none⟩ (.slice (some ⟨gw, 0, none⟩) 128 cp3)) from (HKR.out.trans (((Keeps.of_below HBO.out (fun i h1 h2 => by omega) : Keeps (fun j => j = gd) wq wo).trans (Keeps.of_below HBI.out (fun i h1 h2 => by omega))).drew)).trans (keeps_set _ _ _ _))
            go_wp2_with fail
            go_roundw
            case rel =>
              refine ⟨k + 1, DV.set xi (.slice (some ⟨gw, 0, none⟩) 128 cp3), hlt, by go_num, HK4.out, HD4.out.to (fun j hj => ?_)⟩
              show (if j = xi then mixUpto 0 cut x.2 D 128 else tornUpto fates (cutOf cut) s.way j (sect s.done j) k) = _
              rw [HTK.out j]
              by_cases e : j = xi
              · rw [if_pos e, if_pos e, HMX2.out, HDD.out, e]
              · rw [if_neg e, if_neg e]
            case measure => simp [intOf]; omega
    · obtain rfl : k = wn := by omega
      have HWK := hid (show k = s.way.length from HWL.out)
      have f2 : ∀ q, wr.frozen? ⟨rb, q, none⟩ = false := fun q => frozen_of_row _ _ _ _ _ HRB.out
      have f22 := f2 1
      have f23 := f2 2
      have f24 := f2 3
      have k2 : wr.cell? ⟨rb, 1, none⟩ = some (.slice wa k wc) := (cell_of_row _ _ _ _ _ _ HRB.out).trans rfl
      have k3 : wr.cell? ⟨rb, 2, none⟩ = some (.bool s.off) := (cell_of_row _ _ _ _ _ _ HRB.out).trans rfl
      have k4 : wr.cell? ⟨rb, 3, none⟩ = some (.int .i64 (s.armed : Int)) := (cell_of_row _ _ _ _ _ _ HRB.out).trans rfl
      clear f2 d0 d1 d2 d3 d4
      go_wp2
      go_ret
      obtain ⟨o1, o2, o3, o4, o5, o6, o7⟩ := HOK.out
      have hk2 : Keeps (fun q => q = rb) wr (((wr.setCell ⟨rb, 1, none⟩ (.slice none 0 0)).setCell ⟨rb, 2, none⟩ (.bool false)).setCell ⟨rb, 3, none⟩ (.int .i64 0)) := ((keeps_set _ _ _ _).trans (keeps_set _ _ _ _)).trans (keeps_set _ _ _ _)
      have hgt : ∀ q cs, base.P q → wr.heap[q]? = some (.cells cs 5 (0, 0)) → ¬ q = rb := fun q cs _ hq e => by
        subst e; rw [HRB.out] at hq; simp only [Option.some.injEq, Obj.cells.injEq] at hq; exact absurd hq.2.1 (by decide)
      have hn0 : ∀ ww : World, WayAt ww base (.slice none 0 0) [] [] := fun ww => ⟨World.ownsRow_nil _ _ _ _, rfl, fun i hi => absurd hi (by simp)⟩
      have hcl := crashUpto_length fates (cutOf cut) s.way s.done s.n (cutOf_le cut) o4 o5 s.way.length (Nat.le_refl _)
      refine ⟨rfl, ⟨(heap_setCell_same _ _ _ _ _ _ (heap_setCell_same _ _ _ _ _ _ (heap_setCell_same _ _ _ _ _ _ HRB.out))).trans (by simp [Sl.crash]), ⟨DV, ?_⟩, ⟨[], hn0 _⟩, H.out.2.2.2.1, ?_⟩, ?_⟩
      · have := (HD.out.to (f' := fun j => sect (s.crash fates cut).done j) (fun j hj => by rw [(crash_sect s HOK.out fates cut j).1, HWK.out])).keeps hk2 (fun e => p1 e.symm) hgt
        exact this
      · exact ⟨o1, o2, doneAll_length _ _ hcl _ _ o3 (fun x hx => (o5 x hx).1), hcl, (fun x hx => by cases hx), by simp [Sl.crash], by simp [Sl.crash]⟩
      · exact (HKR.out.mono (fun _ _ e => .inr e)).trans' hk2 (fun _ _ e => .inl e)
end Go.Proofs.Ytbchegbamcigkaa
