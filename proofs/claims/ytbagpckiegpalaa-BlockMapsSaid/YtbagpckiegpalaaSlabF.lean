/-
  Layer 5: Flush: contract.
-/
import Derived.Test.YtbagpckiegpalaaSlabW
namespace Go.Proofs.Ytbagpckiegpalaa
open Go.RowKit
set_option linter.unusedSimpArgs false

/-- One sector is done. -/
def doneOne (now d : List UInt8) (i : Nat) : List UInt8 := d.take (i * 128) ++ (sect now i ++ d.drop (i * 128 + 128))
def doneAll (now d : List UInt8) (ws : List (Nat × List UInt8)) : List UInt8 := ws.foldl (fun d x => doneOne now d x.1) d
theorem doneAll_snoc (now d : List UInt8) (ws : List (Nat × List UInt8)) (x : Nat × List UInt8) : doneAll now d (ws ++ [x]) = doneOne now (doneAll now d ws) x.1 := by unfold doneAll; rw [List.foldl_append]; rfl
def Sl.flush (s : Sl) : Sl := { s with done := doneAll s.now s.done s.way, way := [] }

theorem doneOne_length (now d : List UInt8) (i n : Nat) (hn : now.length = n * 128) (hd : d.length = n * 128) (hi : i < n) : (doneOne now d i).length = n * 128 := by
  unfold doneOne
  rw [List.length_append, List.length_append, List.length_take, List.length_drop, sect_length now i n hn hi]
  omega

theorem doneAll_length (now : List UInt8) (n : Nat) (hn : now.length = n * 128) : ∀ (ws : List (Nat × List UInt8)) (d : List UInt8), d.length = n * 128 → (∀ x ∈ ws, x.1 < n) → (doneAll now d ws).length = n * 128
  | [], d, hd, _ => hd
  | x :: ws, d, hd, h => doneAll_length now n hn ws (doneOne now d x.1) (doneOne_length now d x.1 n hn hd (h x (by simp))) (fun y hy => h y (by simp [hy]))

theorem doneOne_cells (now d : List UInt8) (i n : Nat) (hn : now.length = n * 128) (hi : i < n) : (doneOne now d i).map bv = splice (d.map bv) (i * 128) ((sect now i).map bv) := by
  simp only [doneOne, splice, List.map_append, List.map_take, List.map_drop, List.length_map, sect_length now i n hn hi]

theorem flush_nil (w : World) :
    Calls Try.prog 21 #[.pointer none] w fun e w' => e = .returned (.int .i64 6) ∧ w = w' := by
  go_enter Try.func21, Try.ntmps21
  go_wp2
  go_ret
  exact ⟨rfl, rfl⟩

theorem flush_off (base b bn bd : Nat) (wv : Value) (s : Sl) (w : World) (h : SlabAt w base b bn bd wv s) (ho : s.off = true) :
    Calls Try.prog 21 #[.pointer (some ⟨b, 0, none⟩)] w fun e w' => e = .returned (.int .i64 13) ∧ w = w' := by
  obtain ⟨c0, c1, c2, c3, c4, c5, hf⟩ := h.cells
  rw [ho] at c3
  clear h hf ho
  go_enter Try.func21, Try.ntmps21
  go_wp2
  go_ret
  exact ⟨rfl, rfl⟩

theorem flush_down (base b bn bd : Nat) (wv : Value) (s : Sl) (w : World) (h : SlabAt w base b bn bd wv s) (hst : s.steps ≤ 1000000) (ho : s.off = false) (ha : s.armed = 1) :
    Calls Try.prog 21 #[.pointer (some ⟨b, 0, none⟩)] w fun e w' => e = .returned (.int .i64 13) ∧ SlabAt w' base b bn bd wv s.step ∧ Keeps (fun k => k = b) w w' := by
  obtain ⟨c0, c1, c2, c3, c4, c5, hf⟩ := h.cells
  rw [ho] at c3
  have HS := hid (step_any base b bn bd wv s w h hst)
  have HE := hid (show s.stepE = 13 by unfold Sl.stepE; rw [if_pos ha])
  clear h hf ho ha
  go_enter Try.func21, Try.ntmps21
  go_wp2_with fail
  refine HS.out.mono ?_
  rintro e w1 ⟨rfl, h1, hk1⟩
  rw [HE.out]
  go_wp2
  go_ret
  exact ⟨rfl, h1, hk1⟩

theorem flat_get (l : List (Nat × List UInt8)) (h : ∀ x ∈ l, x.2.length = 128) : ∀ k j, k < l.length → j < 129 → (l.flatMap wcells)[k * 129 + j]? = (wcells (l.getD k (0, [])))[j]? := by
  induction l with
  | nil => intro k j hk; cases hk
  | cons x l ih =>
    intro k j hk hj
    have hx := wcells_length x (h x (by simp))
    rw [List.flatMap_cons]
    cases k with
    | zero =>
      rw [Nat.zero_mul, Nat.zero_add, List.getElem?_append_left (by omega)]
      rfl
    | succ k =>
      rw [List.getElem?_append_right (by omega), hx, show (k + 1) * 129 + j - 129 = k * 129 + j by omega]
      exact ih (fun y hy => h y (by simp [hy])) k j (by simpa using hk) hj

theorem OwnWay.range {w : World} {base : Nat} {v : Value} {l : List (Nat × List UInt8)} (h : OwnWay w base v l) (hl : ∀ x ∈ l, x.2.length = 128) (h0 : 0 < l.length) :
    ∃ g c, v = .slice (some ⟨g, 0, none⟩) l.length c ∧ g < w.heap.size ∧ l.length ≤ c ∧ c ≤ 9223372036854775807 ∧ ∀ k, k < l.length → w.rangeAt g (k * 129) (wcells (l.getD k (0, []))) := by
  rcases h.2 with ⟨rfl, hn⟩ | ⟨g, cap, cur, rfl, hb, hg, h1, h2, h3, h4⟩
  · omega
  · refine ⟨g, cap, rfl, (Array.getElem?_eq_some_iff.1 hg).1, h1, by unfold maxLen at h2; omega, fun k hk j u hu => ?_⟩
    have hx : (l.getD k (0, [])).2.length = 128 := by
      rw [List.getD_eq_getElem?_getD, List.getElem?_eq_getElem hk]
      exact hl _ (List.getElem_mem hk)
    have hj : j < 129 := by
      rcases Nat.lt_or_ge j 129 with h' | h'
      · exact h'
      · rw [List.getElem?_eq_none (by rw [wcells_length _ hx]; exact h')] at hu
        cases hu
    have hat := World.ownsRow.cellAt (w := w) (g := g) (cap := cap) (n := l.length) (xs := l.flatMap wcells) ⟨h.1, h.2⟩ (k * 129 + j) (by omega)
    rw [hat, flat_get l hl k j hk hj]
    exact hu

set_option maxRecDepth 100000 in
set_option maxHeartbeats 4000000 in
theorem flush_any (base b bn bd : Nat) (wv : Value) (s : Sl) (w : World) (h : SlabAt w base b bn bd wv s) (hst : s.steps ≤ 1000000) (ho : s.off = false) (ha : s.armed ≠ 1) :
    Calls Try.prog 21 #[.pointer (some ⟨b, 0, none⟩)] w fun e w' => e = .returned (.int .i64 0) ∧ SlabAt w' base b bn bd (.slice none 0 0) s.step.flush ∧ Keeps (fun k => k = b ∨ k = bd) w w' := by
  obtain ⟨c0, c1, c2, c3, c4, c5, hf⟩ := h.cells
  rw [ho] at c3
  have HS := hid (step_any base b bn bd wv s w h hst)
  have HE := hid (show s.stepE = 0 by unfold Sl.stepE; rw [if_neg ha])
  obtain ⟨a, c, hwv, hwl⟩ := h.2.2.2.1.slice
  obtain ⟨wl, hwl2⟩ : ∃ wl, wl = s.way.length := ⟨_, rfl⟩
  rw [← hwl2] at hwv hwl
  subst hwv
  obtain ⟨s1, hs1⟩ : ∃ s1, s1 = s.step := ⟨_, rfl⟩
  have HWL := hid (show wl = s1.way.length by rw [hs1, hwl2]; rfl)
  rw [← hs1]
  clear h hf ho ha hwl2
  go_enter Try.func21, Try.ntmps21
  go_wp2_with fail
  refine HS.out.mono ?_
  rw [← hs1]
  rintro e w1 ⟨rfl, h1, hk1⟩
  rw [HE.out]
  have H1 := hid h1
  obtain ⟨d0, d1, d2, d3, d4, d5, hf1⟩ := h1.cells
  have hok := h1.2.2.2.2.2.2.2.2.2.2.2
  have HOK := hid hok
  have hlt : b < w1.heap.size ∧ bn < w1.heap.size ∧ bd < w1.heap.size := ⟨(Array.getElem?_eq_some_iff.1 h1.1).1, (Array.getElem?_eq_some_iff.1 h1.2.1).1, (Array.getElem?_eq_some_iff.1 h1.2.2.1).1⟩
  clear h1 hf1 hok
  go_wp2_with fail
  go_loopw [22] (fun i wr => ∃ k : Nat, k ≤ wl ∧ i = .int .i64 k ∧ Keeps (fun j => j = bd) w1 wr ∧ wr.heap[bd]? = some (.cells ((doneAll s1.now s1.done (s1.way.take k)).map bv).toArray 98 (0, 0))) (fun i _ => wl - (intOf i).toNat)
  case atStart => exact ⟨0, Nat.zero_le _, rfl, Keeps.refl _ _, H1.out.2.2.1⟩
  case round =>
    obtain ⟨k, hk, rfl, hkr, hd⟩ := hrel
    have HKR := hid hkr
    have HD := hid hd
    have hsr := hkr.size
    clear hkr hd
    have hbd := H1.out.2.2.2.2.2.2.2.2.1
    have hnd := H1.out.2.2.2.2.2.2.2.2.2.1
    have HBr := hid ((HKR.out.block b hlt.1 hbd).trans H1.out.1)
    have HNr := hid ((HKR.out.block bn hlt.2.1 hnd).trans H1.out.2.1)
    obtain ⟨p1, p2, p3, p4, p5, p6, p7⟩ := HOK.out
    by_cases hlt2 : k < wl
    · obtain ⟨gw, gc, ev, hgw, hcap, hcm, hrng⟩ := H1.out.2.2.2.1.range (fun x hx => (p5 x hx).2) (by have := HWL.out; omega)
      have hwb := H1.out.2.2.2.2.2.2.2.2.2.2.1
      rw [← HWL.out] at ev hcap
      simp only [Value.slice.injEq] at ev
      obtain ⟨ea, _, ec⟩ := ev
      subst ea ec
      have hgd : gw ≠ bd := (hwb gw rfl).2.2
      obtain ⟨x, hx⟩ : ∃ x, x = s1.way.getD k (0, []) := ⟨_, rfl⟩
      have hxm : x ∈ s1.way := by rw [hx, List.getD_eq_getElem?_getD, List.getElem?_eq_getElem (by have := HWL.out; omega)]; exact List.getElem_mem _
      have hx1 := (p5 x hxm).1
      have hx2 := (p5 x hxm).2
      have HTK := hid (show s1.way.take (k + 1) = s1.way.take k ++ [x] by rw [hx, List.take_succ_eq_append_getElem (by have := HWL.out; omega), List.getD_eq_getElem?_getD, List.getElem?_eq_getElem (by have := HWL.out; omega)]; rfl)
      have hr0 := hrng k (by have := HWL.out; omega)
      rw [← hx] at hr0
      obtain ⟨WX, hWX⟩ : ∃ WX, WX = wcells x := ⟨_, rfl⟩
      rw [← hWX] at hr0
      have HWXL := hid (show WX.length = 129 by rw [hWX]; exact wcells_length x hx2)
      have HRX := hid (show wr.rangeAt gw (k * 129) WX from fun j v hv => (HKR.out.cell (p := ⟨gw, k * 129 + j, none⟩) hgw hgd).trans (hr0 j v hv))
      have HW1 := hid (show WX.toArray.all (·.oneCell') = true by rw [hWX]; exact all_oneCell_toArray (fun v hv => by
        unfold wcells at hv
        rcases List.mem_cons.1 hv with rfl | hv
        · rfl
        · simp only [List.mem_map] at hv; obtain ⟨z, _, rfl⟩ := hv; rfl))
      obtain ⟨wa, hwa⟩ : ∃ wa, wa = (wr.alloc (.cells Try.zeroCells100 100)).setRow wr.heap.size WX.toArray := ⟨_, rfl⟩
      have HGa := hid (show wa.heap[wr.heap.size]? = some (.cells WX.toArray 100 (0, 0)) by rw [hwa]; exact setRow_heap (wr.alloc _) wr.heap.size _ _ _ _ (heap_alloc_new wr _))
      have hBa : Below wr.heap.size wr wa := by rw [hwa]; exact ((Below.refl _ _).alloc (Nat.le_refl _) _).trans ⟨rfl, rfl, rfl, by simp, fun k hk => setRow_other _ _ k _ (by omega)⟩
      have HBa := hid hBa
      have HWa := hid hwa
      have HWX := hid hWX
      clear hwa hBa hWX hr0 hrng hwb hx p1 p2 p5 p6 p7
      go_upto_region 11 with (first | (refine wpList_load_mid rfl 100 (.tmp 24) rfl gw (k * 129) rfl WX _ HRX.out Try.underlying100 rfl (by rw [write_size, HWXL.out]) ?_) | (refine wpList_store_row rfl 100 (.tmp 5) (.tmp 25) rfl wr.heap.size WX.toArray rfl rfl 100 Try.zeroCells100 (heap_alloc_new wr _) (by rw [write_size]; simp [HWXL.out]) (by rw [zero_wsize]; simp [HWXL.out]) HW1.out ?_) | fail)
      rw [← HWa.out]
      have hax : wa.heap.size = wr.heap.size + 1 := by rw [HWa.out]; simp
      have HBa2 := hid ((HBa.out.block b (by omega)).trans HBr.out)
      have HNa := hid ((HBa.out.block bn (by omega)).trans HNr.out)
      have HDa := hid ((HBa.out.block bd (by omega)).trans HD.out)
      have g0 : wa.cell? ⟨b, 0, none⟩ = some (.slice (some ⟨bn, 0, none⟩) s1.n s1.n) := (cell_of_row _ _ _ _ _ _ HBa2.out).trans rfl
      have g1 : wa.cell? ⟨b, 1, none⟩ = some (.slice (some ⟨bd, 0, none⟩) s1.n s1.n) := (cell_of_row _ _ _ _ _ _ HBa2.out).trans rfl
      have g2 : wa.cell? ⟨wr.heap.size, 0, none⟩ = some (.int .i64 (x.1 : Int)) := by rw [cell_of_row _ _ _ _ _ _ HGa.out, HWX.out]; rfl
      obtain ⟨cs, hcs⟩ : ∃ cs, cs = (sect s1.now x.1).map bv := ⟨_, rfl⟩
      have hcl : cs.length = 128 := by rw [hcs, List.length_map]; exact sect_length _ _ _ p3 hx1
      have er : wa.rangeAt bn (x.1 * 128) cs := by rw [hcs]; exact sect_range HNa.out p3 hx1
      have hsz : (Try.prog.info? 98).map (·.size) = some cs.length := by rw [sector_size, hcl]
      have hone : ∀ v ∈ cs, v.oneCell' = true := by rw [hcs]; intro v hv; simp only [List.mem_map] at hv; obtain ⟨z, _, rfl⟩ := hv; rfl
      have hdl := doneAll_length s1.now s1.n p3 (s1.way.take k) s1.done p4 (fun y hy => (HOK.out.2.2.2.2.1 y (List.mem_of_mem_take hy)).1)
      have eth : wa.there bd (x.1 * 128) cs.length := by
        intro j hj
        rw [hcl] at hj
        refine ⟨?_, frozen_of_row _ _ _ _ _ HDa.out⟩
        rw [cell_of_row _ _ _ _ _ _ HDa.out]
        rw [Array.getElem?_eq_getElem (by simp; omega)]
        rfl
      have hun := Try.underlying98
      have hb1 : (0 : Int) ≤ (x.1 : Int) := by omega
      have hb2 : (x.1 : Int) < (s1.n : Int) := by omega
      have hnn : s1.n ≤ 4096 := HOK.out.2.1
      clear c0 c1 c3 c4 c5 d0 d1 d2 d3 d4 d5
      obtain ⟨xi, hxi⟩ : ∃ xi, xi = x.1 := ⟨_, rfl⟩
      rw [← hxi] at g2 hcs er eth hb1 hb2 hx1
      have HS1 := hid hs1
      have HXI := hid hxi
      have HCS := hid hcs
      clear hxi hcs hs1
      go_region_held3 (fun w' => w'.cell? ⟨b, 0, none⟩ = some (.slice (some ⟨bn, 0, none⟩) s1.n s1.n) ∧ w'.cell? ⟨b, 1, none⟩ = some (.slice (some ⟨bd, 0, none⟩) s1.n s1.n) ∧ w'.cell? ⟨wr.heap.size, 0, none⟩ = some (.int .i64 (xi : Int)) ∧ w'.rangeAt bn (xi * 128) cs ∧ w'.there bd (xi * 128) cs.length)
        ((refine ⟨?_, ?_, ?_, ?_, ?_⟩ <;> first | assumption | exact (World.cell?_setCells_out bd _ _ _ ⟨b, 0, none⟩ (fun e _ => absurd e hbd)).trans (by assumption) | exact (World.cell?_setCells_out bd _ _ _ ⟨b, 1, none⟩ (fun e _ => absurd e hbd)).trans (by assumption) | exact (World.cell?_setCells_out bd _ _ _ ⟨wr.heap.size, 0, none⟩ (fun e _ => absurd e (by simp; omega))).trans (by assumption) | (apply World.there_setCells; assumption) | (refine World.rangeAt_setCells_apart (by assumption) _ _ _ (by omega)) | fail))
        (fail)
      obtain ⟨w3, hw3⟩ : ∃ w3, w3 = wa.drew.setCells bd (xi * 128) cs := ⟨_, rfl⟩
      rw [← hw3]
      have HD3 := hid (show w3.heap[bd]? = some (.cells (splice ((doneAll s1.now s1.done (s1.way.take k)).map bv) (xi * 128) cs).toArray 98 (0, 0)) by rw [hw3]; exact heap_setCells_row bd _ cs wa.drew (xi * 128) _ HDa.out (by rw [List.length_map, hdl, hcl]; omega))
      have HK3 := hid (show Keeps (fun j => j = bd) w1 w3 by
        rw [hw3]
        exact (HKR.out.trans ((Keeps.of_below HBa.out (fun i h1 h2 => by omega)).drew)).trans (keeps_setCells bd cs wa.drew (xi * 128)))
      clear hw3
      go_wp2
      go_roundw
      case rel =>
        refine ⟨k + 1, hlt2, by go_num, HK3.out, ?_⟩
        rw [HTK.out, doneAll_snoc, ← HXI.out, doneOne_cells _ _ _ s1.n p3 hx1, ← HCS.out]
        exact HD3.out
      case measure => simp [intOf]; omega
    · obtain rfl : k = wl := by omega
      have hall : s1.way.take k = s1.way := List.take_of_length_le (by have := HWL.out; omega)
      rw [hall] at HD
      have e2 : wr.cell? ⟨b, 2, none⟩ = some (.slice a k c) := (cell_of_row _ _ _ _ _ _ HBr.out).trans rfl
      have f2 : wr.frozen? ⟨b, 2, none⟩ = false := frozen_of_row _ _ _ _ _ HBr.out
      go_wp2
      go_ret
      have hk2 : Keeps (fun j => j = b) wr (wr.setCell ⟨b, 2, none⟩ (.slice none 0 0)) := keeps_set _ _ _ _
      refine ⟨rfl, ⟨(heap_setCell_same _ _ _ _ _ _ HBr.out).trans (by simp [Sl.flush]), ?_, ?_, OwnWay.nil _ _, H1.out.2.2.2.2.1, H1.out.2.2.2.2.2.1, H1.out.2.2.2.2.2.2.1, H1.out.2.2.2.2.2.2.2.1, hbd, hnd, (fun j hj => by cases hj), ?_⟩, ?_⟩
      · exact (heap_setCell_other _ _ _ _ (fun e => H1.out.2.2.2.2.2.2.2.1 e.symm)).trans HNr.out
      · exact (heap_setCell_other _ _ _ _ (fun e => hbd e.symm)).trans HD.out
      · exact ⟨p1, p2, p3, doneAll_length _ _ p3 _ _ p4 (fun x hx => (p5 x hx).1), (fun x hx => by cases hx), by simp [Sl.flush], p7⟩
      · exact ((hk1.mono (fun _ _ e => .inl e)).trans' HKR.out (fun _ _ e => .inr e)).trans' hk2 (fun _ _ e => .inl e)

end Go.Proofs.Ytbagpckiegpalaa
