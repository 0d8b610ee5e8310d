/-
  Layer 5: the document's Put whole, and Get.
-/
import Derived.Test.YtbchegbamcigkaaRefP5
namespace Go.Proofs.Ytbchegbamcigkaa
open Go.RowKit

theorem refput_all (base : Bs) (rb gd cd : Nat) (wv : Value) (s : Sl) (i : Int) (pv : Value) (p : List UInt8) (w : World) (h : RefAt w base rb gd cd wv s) (hst : s.steps ≤ 1000000) (hwy : s.way.length < 1000000) (hp : Rd w pv p) (hpb : p ≠ [] → ∀ k, pv.ownBlock = some k → k ≠ rb) (hP : ∀ g, w.heap.size ≤ g → base.P g) :
    Calls Try.prog 18 #[.pointer (some ⟨rb, 0, none⟩), .int .i64 i, pv] w fun e w' => ∃ v', e = .returned (.int .i64 (s.write i p).2) ∧ RefAt w' base rb gd cd v' (s.write i p).1 ∧ Keeps (fun k => k = rb) w w' := by
  obtain ⟨pa, pc, rfl⟩ := rd_slice hp
  by_cases h1 : s.has i = false
  · have HE := hid (show s.write i p = (s, 1) by unfold Sl.write; rw [if_pos h1])
    obtain ⟨c0, c1, c2, c3, c4, hf⟩ := h.cells
    have H := hid h
    clear c1 c2 c3 c4 hf h
    by_cases h2 : i < 0
    · go_enter Try.func18, Try.ntmps18
      go_wp2
      go_ret
      rw [HE.out]
      first | exact ⟨wv, rfl, H.out, Keeps.refl _ _⟩ | exact ⟨rfl, ⟨wv, H.out⟩, Keeps.refl _ _⟩
    · have h3 : (s.n : Int) ≤ i := by simp [Sl.has] at h1; omega
      have h2' : 0 ≤ i := by omega
      go_enter Try.func18, Try.ntmps18
      go_wp2
      go_ret
      rw [HE.out]
      first | exact ⟨wv, rfl, H.out, Keeps.refl _ _⟩ | exact ⟨rfl, ⟨wv, H.out⟩, Keeps.refl _ _⟩
  · have h1' : s.has i = true := by simpa using h1
    have hb : 0 ≤ i ∧ i < (s.n : Int) := by simpa [Sl.has] using h1'
    obtain ⟨j, rfl⟩ := Int.eq_ofNat_of_zero_le hb.1
    have hge : ((s.n : Int) ≤ (j : Int)) = False := eq_false (by omega)
    have hb1 : (0 : Int) ≤ (j : Int) := by omega
    by_cases h2 : 128 < p.length
    · have HE := hid (show s.write (j : Int) p = (s, 3) by unfold Sl.write; rw [if_neg h1, if_pos h2])
      obtain ⟨c0, c1, c2, c3, c4, hf⟩ := h.cells
      have H := hid h
      have h2i : (128 : Int) < (p.length : Int) := by omega
      clear c1 c2 c3 c4 hf h h1 h1' hb
      go_enter Try.func18, Try.ntmps18
      go_wp2
      go_ret
      rw [HE.out]
      first | exact ⟨wv, rfl, H.out, Keeps.refl _ _⟩ | exact ⟨rfl, ⟨wv, H.out⟩, Keeps.refl _ _⟩
    · by_cases h3 : s.off = true
      · have HE := hid (show s.write (j : Int) p = (s, 13) by unfold Sl.write; rw [if_neg h1, if_neg h2, if_pos h3])
        obtain ⟨c0, c1, c2, c3, c4, hf⟩ := h.cells
        rw [h3] at c2
        have H := hid h
        have h2i : (p.length : Int) ≤ 128 := by omega
        clear c1 c3 c4 hf h h1 h1' hb h3
        go_enter Try.func18, Try.ntmps18
        go_wp2
        go_ret
        rw [HE.out]
        first | exact ⟨wv, rfl, H.out, Keeps.refl _ _⟩ | exact ⟨rfl, ⟨wv, H.out⟩, Keeps.refl _ _⟩
      · have HE := hid (show s.write (j : Int) p = ((s.put j (pad p)).step, s.stepE) by unfold Sl.write; rw [if_neg h1, if_neg h2, if_neg h3, Int.toNat_natCast])
        refine (refput_any base rb gd cd wv s j pa p.length pc p w h (by omega) hst hwy (by simpa using h3) hp rfl (by omega) hpb hP).mono ?_
        rintro e w' ⟨v', rfl, h4, h5⟩
        rw [HE.out]
        exact ⟨v', rfl, h4, h5⟩

theorem rflat_get (l : List (Nat × Value)) : ∀ k j, k < l.length → j < 2 → (l.flatMap rwcells)[k * 2 + j]? = (rwcells (l.getD k (0, zv)))[j]? := by
  induction l with
  | nil => intro k j hk; cases hk
  | cons x l ih =>
    intro k j hk hj
    rw [List.flatMap_cons]
    cases k with
    | zero =>
      rw [Nat.zero_mul, Nat.zero_add, List.getElem?_append_left (by simpa [rwcells] using hj)]
      rfl
    | succ k =>
      rw [List.getElem?_append_right (by simp [rwcells]; omega), show (rwcells x).length = 2 from rfl, show (k + 1) * 2 + j - 2 = k * 2 + j by omega]
      exact ih k j (by simpa using hk) hj

/-- One that is under way, read. -/
theorem WayAt.at {w : World} {base : Bs} {wv : Value} {ws : List (Nat × List UInt8)} {PW : List (Nat × Value)} (h : WayAt w base wv ws PW) (h0 : 0 < ws.length) :
    ∃ g c, wv = .slice (some ⟨g, 0, none⟩) ws.length c ∧ g < w.heap.size ∧ ws.length ≤ c ∧ c ≤ 9223372036854775807 ∧ ∀ k, k < ws.length → w.cell? ⟨g, k * 2, none⟩ = some (.int .i64 ((ws.getD k (0, [])).1 : Int)) ∧ w.cell? ⟨g, k * 2 + 1, none⟩ = some (PW.getD k (0, zv)).2 := by
  rcases h.1.2 with ⟨rfl, hn⟩ | ⟨g, cap, cur, rfl, hb, hg, h1, h2, h3, h4⟩
  · omega
  · refine ⟨g, cap, rfl, (Array.getElem?_eq_some_iff.1 hg).1, h1, by unfold maxLen at h2; omega, fun k hk => ?_⟩
    have hl := h.2.1
    have hlen := rw_length PW
    have a0 := World.ownsRow.cellAt (w := w) (g := g) (cap := cap) (n := ws.length) (xs := PW.flatMap rwcells) ⟨h.1.1, h.1.2⟩ (k * 2) (by omega)
    have a1 := World.ownsRow.cellAt (w := w) (g := g) (cap := cap) (n := ws.length) (xs := PW.flatMap rwcells) ⟨h.1.1, h.1.2⟩ (k * 2 + 1) (by omega)
    have e0 := rflat_get PW k 0 (by omega) (by omega)
    rw [Nat.add_zero] at e0
    rw [e0] at a0
    rw [rflat_get PW k 1 (by omega) (by omega)] at a1
    refine ⟨?_, ?_⟩
    · rw [a0, ← (h.2.2 k hk).1]; rfl
    · rw [a1]; rfl

theorem refget_nil (i : Int) (w : World) :
    Calls Try.prog 20 #[.pointer none, .int .i64 i] w fun e w' => e = .returned (.tuple #[.slice none 0 0, .int .i64 6]) ∧ w = w' := by
  go_enter Try.func20, Try.ntmps20
  go_wp2
  go_ret2
  exact ⟨rfl, rfl⟩

/-- The document's answer to Read. -/
def Sl.got (s : Sl) (i : Int) : List UInt8 × Int := if s.has i = false then ([], 1) else if s.off = true then ([], 13) else (lastAt s.way i.toNat (sect s.done i.toNat), 0)

theorem lastAt_length (ws : List (Nat × List UInt8)) (j : Nat) : ∀ d, d.length = 128 → (∀ x ∈ ws, x.2.length = 128) → (lastAt ws j d).length = 128 := by
  induction ws with
  | nil => intro d hd _; exact hd
  | cons x ws ih =>
    intro d hd h
    show (lastAt ws j (if x.1 = j then x.2 else d)).length = 128
    refine ih _ ?_ (fun y hy => h y (by simp [hy]))
    split
    · exact h x (by simp)
    · exact hd

set_option maxRecDepth 100000 in
set_option maxHeartbeats 4000000 in
theorem refget_any (base : Bs) (rb gd cd : Nat) (wv : Value) (s : Sl) (i : Nat) (w : World) (h : RefAt w base rb gd cd wv s) (hi : i < s.n) (ho : s.off = false) :
    Calls Try.prog 20 #[.pointer (some ⟨rb, 0, none⟩), .int .i64 (i : Int)] w fun e w' => ∃ v, e = .returned (.tuple #[v, .int .i64 0]) ∧ Own w' w.heap.size v (lastAt s.way i (sect s.done i)) ∧ Below w.heap.size w w' := by
  obtain ⟨c0, c1, c2, c3, c4, hf⟩ := h.cells
  rw [ho] at c2
  have hok := h.okay
  have HOK := hid hok
  have hbase : base.n ≤ w.heap.size := by have := h.apart; omega
  have hge : ((s.n : Int) ≤ (i : Int)) = False := eq_false (by omega)
  have hb1 : (0 : Int) ≤ (i : Int) := by omega
  have hb2 : (i : Int) < (s.n : Int) := by omega
  have hb3 : s.n ≤ 4096 := hok.2.1
  obtain ⟨DV, hd⟩ := h.2.1
  obtain ⟨PW, hp⟩ := h.2.2.1
  have hdl := hd.1.1
  have hcell := World.ownsRow.cellAt (w := w) (g := gd) (cap := cd) (n := s.n) (xs := DV) ⟨hd.1.1, hd.1.2⟩ i (by omega)
  have HRW := hid (hd.2 i hi)
  obtain ⟨dv, hdv⟩ : ∃ dv, dv = DV.getD i zv := ⟨_, rfl⟩
  have hcell2 : w.cell? ⟨gd, i, none⟩ = some dv := by
    rw [hcell, hdv, List.getD_eq_getElem?_getD, List.getElem?_eq_getElem (by omega)]
    rfl
  rw [← hdv] at HRW
  have HWP := hid hp
  have hsl := sect_length s.done i s.n hok.2.2.2.1 hi
  have HSL := hid hsl
  obtain ⟨wl, hwl⟩ : ∃ wl, wl = s.way.length := ⟨_, rfl⟩
  have HWL := hid hwl
  obtain ⟨wa, wn, wc, ewv⟩ := owns_slice hp.1
  have hwn : wn = wl := by
    rw [hwl]
    rcases hp.1.2 with ⟨e, hn⟩ | ⟨g, cap, cur, e, _⟩
    · rw [ewv] at e; simp only [Value.slice.injEq] at e; omega
    · rw [ewv] at e; simp only [Value.slice.injEq] at e; omega
  subst hwn
  subst ewv
  have hwm : wn ≤ 1000000 := by rw [hwl]; exact hok.2.2.2.2.2.1
  clear h hf hok hd hp hcell hdv hsl hwl c3 c4
  go_enter Try.func20, Try.ntmps20
  go_wp2_with fail
  go_loopw [6, 38] (fun pv i' wr => ∃ k : Nat, k ≤ wn ∧ i' = .int .i64 k ∧ RowB wr base pv (lastAt (s.way.take k) i (sect s.done i)) ∧ Below w.heap.size w wr) (fun _ i' _ => wn - (intOf i').toNat)
  case atStart => exact ⟨0, Nat.zero_le _, rfl, HRW.out, Below.refl _ _⟩
  case round =>
    obtain ⟨k, hk, rfl, hr, hB⟩ := hrel
    have HR := hid hr
    have HB := hid hB
    have hsr := hB.size
    clear hr hB
    by_cases hlt : k < wn
    · obtain ⟨g, c, ev, hg, hc1, hc2, hat⟩ := HWP.out.at (by have := HWL.out; omega)
      simp only [Value.slice.injEq] at ev
      obtain ⟨e1, _, e3⟩ := ev
      subst e1 e3
      obtain ⟨a0, a1⟩ := hat k (by have := HWL.out; omega)
      have g0 := (HB.out.cell (p := ⟨g, k * 2, none⟩) hg).trans a0
      have g1 := (HB.out.cell (p := ⟨g, k * 2 + 1, none⟩) hg).trans a1
      have HRK := hid ((HWP.out.2.2 k (by have := HWL.out; omega)).2.below HB.out)
      obtain ⟨x, hx⟩ : ∃ x, x = s.way.getD k (0, []) := ⟨_, rfl⟩
      obtain ⟨pk, hpk⟩ : ∃ pk, pk = (PW.getD k (0, zv)).2 := ⟨_, rfl⟩
      rw [← hx] at g0
      rw [← hpk] at g1 HRK
      rw [← hx] at HRK
      have HTK := hid (show lastAt (s.way.take (k + 1)) i (sect s.done i) = if x.1 = i then x.2 else lastAt (s.way.take k) i (sect s.done i) by
        rw [List.take_succ_eq_append_getElem (by have := HWL.out; omega), lastAt_snoc, hx, List.getD_eq_getElem?_getD, List.getElem?_eq_getElem (by have := HWL.out; omega)]
        rfl)
      have hcm : wn ≤ wc := by have := HWL.out; omega
      have hcm2 : wc ≤ 9223372036854775807 := hc2
      obtain ⟨qa, qn, qc, eq⟩ : ∃ a n c, pk = .slice a n c := by
        obtain ⟨_, g, c, cs, e, _⟩ := HRK.out
        exact ⟨_, _, _, e⟩
      subst eq
      obtain ⟨xi, hxi⟩ : ∃ xi, xi = x.1 := ⟨_, rfl⟩
      rw [← hxi] at g0 HTK
      clear a0 a1 hat hx hpk hxi
      have hA0 : (wr.alloc (.cells #[.int .i64 (xi : Int), .slice qa qn qc] 108)).cell? ⟨wr.heap.size, 0, none⟩ = some (.int .i64 (xi : Int)) := by rw [cell_of_row _ _ _ _ _ _ (heap_alloc_new wr _)]; rfl
      have hA1 : (wr.alloc (.cells #[.int .i64 (xi : Int), .slice qa qn qc] 108)).cell? ⟨wr.heap.size, 1, none⟩ = some (.slice qa qn qc) := by rw [cell_of_row _ _ _ _ _ _ (heap_alloc_new wr _)]; rfl
      have hbo : Below wr.heap.size wr (wr.alloc (.cells #[.int .i64 (xi : Int), .slice qa qn qc] 108)) := (Below.refl _ _).alloc (Nat.le_refl _) _
      have HBO := hid hbo
      clear hbo
      by_cases hxe : xi = i
      · have HT2 := hid (HTK.out.trans (if_pos hxe))
        have hxe' := hxe.symm
        clear hxe
        subst hxe'
        go_wp2_with fail
        go_roundw
        case rel => exact ⟨k + 1, hlt, by go_num, by rw [HT2.out]; exact HRK.out.below HBO.out, HB.out.trans (HBO.out.mono hsr)⟩
        case measure => simp [intOf]; omega
      · have hbe : ((xi : Int) == (i : Int)) = false := by rw [beq_eq_false_iff_ne]; omega
        have HT2 := hid (HTK.out.trans (if_neg hxe))
        have hxi2 : ¬ (xi : Int) = (i : Int) := by omega
        clear hxe
        go_wp2_with fail
        go_roundw
        case rel => exact ⟨k + 1, hlt, by go_num, by rw [HT2.out]; exact HR.out.below HBO.out, HB.out.trans (HBO.out.mono hsr)⟩
        case measure => simp [intOf]; omega
    · obtain rfl : k = wn := by omega
      have hall : s.way.take k = s.way := List.take_of_length_le (by have := HWL.out; omega)
      rw [hall] at HR
      have HLL := hid (lastAt_length s.way i (sect s.done i) HSL.out (fun x hx => (HOK.out.2.2.2.2.1 x hx).2))
      obtain ⟨L, hL⟩ : ∃ L, L = lastAt s.way i (sect s.done i) := ⟨_, rfl⟩
      rw [← hL] at HR HLL
      have HL := hid hL
      clear hL
      obtain ⟨pa, pc, epv⟩ := rd_slice HR.out.rd
      rw [HLL.out] at epv
      subst epv
      have HE2 := hid (Own.empty wr wr.heap.size (Nat.le_refl _))
      have HR2 := hid (HR.out.rd.alloc (.cells #[] 5))
      go_wp2_with (first | (at_builtin; (refine appw (by rfl) (.tmp 49) (.tmp 50) rfl wr.heap.size (.slice (some ⟨wr.heap.size, 0, none⟩) 0 0) _ [] L L 128 rfl rfl HE2.out HR2.out (by have := HLL.out; simp; omega) rfl (by have := HLL.out; simp; omega) (by simp) ?_); intro ad3 cp3 w3 ho3 hg3) | fail)
      go_ret2
      exact ⟨_, rfl, by rw [← HL.out]; exact ho3.base (fun k hk => by have := (ho3.lt k hk).1; omega), (HB.out.alloc hsr _).grown hg3 (by simp; omega) (fun k hk => by have : wr.heap.size = k := Option.some.inj hk; omega)⟩

end Go.Proofs.Ytbchegbamcigkaa
