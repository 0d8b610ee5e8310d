/-
  Layer 5: Crash: contract.
-/
import Derived.Test.YtbagpckiegpalaaSlabF
import Derived.Test.YtbagpckiegpalaaSlabK
namespace Go.Proofs.Ytbagpckiegpalaa
open Go.RowKit
set_option linter.unusedSimpArgs false

/-- One write at its fate. -/
def crashOne (d : List UInt8) (x : Nat × List UInt8) (f t : Nat) : List UInt8 := splice d (x.1 * 128 + f) ((x.2.drop f).take (t - f))
def crashAt (fates : List UInt8) (cut : Nat) (d : List UInt8) (k : Nat) (x : Nat × List UInt8) : List UInt8 := crashOne d x (keptFrom (fateOf fates k) cut) (keptUpto (fateOf fates k) cut)
def crashUpto (fates : List UInt8) (cut : Nat) (ws : List (Nat × List UInt8)) (d : List UInt8) (k : Nat) : List UInt8 := (List.range k).foldl (fun d j => crashAt fates cut d j (ws.getD j (0, []))) d
theorem crashUpto_succ (fates : List UInt8) (cut : Nat) (ws : List (Nat × List UInt8)) (d : List UInt8) (k : Nat) : crashUpto fates cut ws d (k + 1) = crashAt fates cut (crashUpto fates cut ws d k) k (ws.getD k (0, [])) := by
  unfold crashUpto
  rw [List.range_succ, List.foldl_append]
  rfl
def cutOf (cut : Int) : Nat := (min (max cut 0) 128).toNat
def Sl.crash (s : Sl) (fates : List UInt8) (cut : Int) : Sl :=
  { s with done := crashUpto fates (cutOf cut) s.way s.done s.way.length, now := doneAll (crashUpto fates (cutOf cut) s.way s.done s.way.length) s.now s.way, way := [], off := false, armed := 0 }

theorem kept_le (f cut : Nat) (hc : cut ≤ 128) : keptFrom f cut ≤ keptUpto f cut ∧ keptUpto f cut ≤ 128 := by
  unfold keptFrom keptUpto
  split <;> split <;> (try split) <;> (try split) <;> omega

theorem splice_length {α : Type} (L : List α) (o : Nat) (cs : List α) (h : o + cs.length ≤ L.length) : (splice L o cs).length = L.length := by
  unfold splice
  rw [List.length_append, List.length_append, List.length_take, List.length_drop]
  omega

theorem crashAt_length (fates : List UInt8) (cut : Nat) (d : List UInt8) (k n : Nat) (x : Nat × List UInt8) (hc : cut ≤ 128) (hd : d.length = n * 128) (hx : x.1 < n) (hx2 : x.2.length = 128) : (crashAt fates cut d k x).length = n * 128 := by
  unfold crashAt crashOne
  have := kept_le (fateOf fates k) cut hc
  rw [splice_length _ _ _ (by rw [List.length_take, List.length_drop]; omega), hd]

theorem crashUpto_length (fates : List UInt8) (cut : Nat) (ws : List (Nat × List UInt8)) (d : List UInt8) (n : Nat) (hc : cut ≤ 128) (hd : d.length = n * 128) (hw : ∀ x ∈ ws, x.1 < n ∧ x.2.length = 128) : ∀ k, k ≤ ws.length → (crashUpto fates cut ws d k).length = n * 128
  | 0, _ => hd
  | k + 1, hk => by
    rw [crashUpto_succ]
    have hm : ws.getD k (0, []) ∈ ws := by rw [List.getD_eq_getElem?_getD, List.getElem?_eq_getElem (by omega)]; exact List.getElem_mem _
    exact crashAt_length fates cut _ k n _ hc (crashUpto_length fates cut ws d n hc hd hw k (by omega)) (hw _ hm).1 (hw _ hm).2

theorem cutOf_le (c : Int) : cutOf c ≤ 128 := by unfold cutOf; omega

theorem splice_map {α β : Type} (g : α → β) (L : List α) (o : Nat) (cs : List α) : (splice L o cs).map g = splice (L.map g) o (cs.map g) := by
  simp only [splice, List.map_append, List.map_take, List.map_drop, List.length_map]

/-- A copy into a row, as a step of a region that draws: all other blocks stay. -/
theorem step_copykeep {P : Program} {ops : Array Oper} {o : Oper} {a : Act} {w : World} {K : Act → World → Prop} {Q : Exit → Act → World → Prop} {E : Prop} (hgd : o.guard = none) (d s : Operand) (dT sT : TypeId)
    (ho : o.op = .call { callee := .builtin .copy, args := #[d, s], argTypes := #[dT, sT] }) (elem : TypeId) (hu : P.underlying dT = some (.slice elem)) (hsz : (P.info? elem).map (·.size) = some 1)
    (dp sp : Option Addr) (dLen dCap sLen sCap : Nat) (hd : a.eval d = .slice dp dLen dCap) (hs : a.eval s = .slice sp sLen sCap)
    (g off : Nat) (cur : List Value) (t : TypeId) (hg : w.heap[g]? = some (.cells cur.toArray t (0, 0))) (cs : List Value) (hn : cs.length = Nat.min sLen dLen)
    (hpos : 0 < cs.length → dp = some ⟨g, off, none⟩ ∧ ∃ ad, sp = some ad ∧ ∀ j v, cs[j]? = some v → w.cell? (ad.add j) = some v)
    (hfit : off + cs.length ≤ cur.length) (h1 : ∀ v ∈ cs, v.oneCell' = true)
    (h : ∀ w', Hid (w'.heap[g]? = some (.cells (splice cur off cs).toArray t (0, 0))) → Keeps (fun k => k = g) w w' → K (a.put o.dst (goInt cs.length)) w') :
    if Region.wanted o (yielded ops a.tmps) = true then Oper.wp P o a w K Q else E := by
  have hw : Region.wanted o (yielded ops a.tmps) = true := by simp [Region.wanted, hgd]
  rw [if_pos hw]
  by_cases h0 : cs.length = 0
  · obtain rfl : cs = [] := List.eq_nil_of_length_eq_zero h0
    have hrun := run_copy_none (P := P) w dT sT o.type elem dp sp dLen dCap sLen sCap hu hsz (by simpa using hn.symm)
    unfold Oper.wp
    simp [execOp, ho, resolve, invoke, builtin, hd, hs, hrun, Result.andThen]
    exact h w (show _ = _ by simpa [splice] using hg) (Keeps.refl _ _)
  · obtain ⟨rfl, ad, rfl, hsrc⟩ := hpos (by omega)
    have hrun := run_copy_row (P := P) w dT sT o.type elem g off dLen dCap ad sLen sCap cur.toArray t cs hu hsz hg hn hsrc (by simpa using hfit) h1
    unfold Oper.wp
    simp [execOp, ho, resolve, invoke, builtin, hd, hs, hrun, Result.andThen]
    exact h _ (show _ = _ by simpa [splice] using setRow_heap w g _ _ t _ hg) ⟨rfl, rfl, rfl, by simp [World.setRow], fun k _ hk => setRow_other w g k _ hk⟩

theorem Rd.keepsB {S : Nat → Prop} {w w' : World} {v : Value} {l : List UInt8} (h : Rd w v l) (hk : Keeps S w w') (hn : ∀ k, v.ownBlock = some k → ¬ S k) : Rd w' v l := by
  obtain ⟨a, cap, rfl, h1, h2, h3, h4⟩ := h
  refine ⟨a, cap, rfl, h1, h2, h3, fun x hx j hj => ?_⟩
  have h := h4 x hx j hj
  have hb := World.block_lt_of_cell? _ _ h
  have hxb : (x.add j).block = x.block := by unfold Addr.add; split <;> rfl
  rw [hk.cell hb (by rw [hxb]; exact hn _ (by rw [hx]; rfl))]
  exact h

theorem rd_keepsE {S : Nat → Prop} {w w' : World} {v : Value} {l : List UInt8} (h : Rd w v l) (hk : Keeps S w w') (hn : l ≠ [] → ∀ k, v.ownBlock = some k → ¬ S k) : Rd w' v l := by
  by_cases hl : l = []
  · subst hl
    obtain ⟨a, cap, rfl, h1, h2, h3, h4⟩ := h
    exact ⟨a, cap, rfl, h1, h2, h3, fun x hx j hj => absurd hj (by simp)⟩
  · exact h.keepsB hk (hn hl)

theorem crash_nil (fv : Value) (cut : Int) (w : World) (hf : ∃ a n c, fv = .slice a n c) :
    Calls Try.prog 25 #[.pointer none, fv, .int .i64 cut] w fun e w' => e = .returned (.int .i64 6) ∧ w = w' := by
  obtain ⟨a, n, c, rfl⟩ := hf
  go_enter Try.func25, Try.ntmps25
  go_wp2
  go_ret
  exact ⟨rfl, rfl⟩

set_option maxRecDepth 100000 in
set_option maxHeartbeats 4000000 in
theorem crash_any (base b bn bd : Nat) (wv : Value) (s : Sl) (fv : Value) (fates : List UInt8) (cut : Int) (w : World) (h : SlabAt w base b bn bd wv s) (hrd : Rd w fv fates) (hfb : fates ≠ [] → ∀ k, fv.ownBlock = some k → k ≠ bd) :
    Calls Try.prog 25 #[.pointer (some ⟨b, 0, none⟩), fv, .int .i64 cut] w fun e w' => e = .returned (.int .i64 0) ∧ SlabAt w' base b bn bd (.slice none 0 0) (s.crash fates cut) ∧ Keeps (fun k => k = b ∨ k = bn ∨ k = bd) w w' := by
  obtain ⟨c0, c1, c2, c3, c4, c5, hf⟩ := h.cells
  obtain ⟨a, c, hwv, hwl⟩ := h.2.2.2.1.slice
  obtain ⟨wl, hwl2⟩ : ∃ wl, wl = s.way.length := ⟨_, rfl⟩
  rw [← hwl2] at hwv hwl
  subst hwv
  have HWL := hid hwl2
  have H := hid h
  have hok := h.2.2.2.2.2.2.2.2.2.2.2
  have HOK := hid hok
  have HLT := hid (show b < w.heap.size ∧ bn < w.heap.size ∧ bd < w.heap.size from ⟨(Array.getElem?_eq_some_iff.1 h.1).1, (Array.getElem?_eq_some_iff.1 h.2.1).1, (Array.getElem?_eq_some_iff.1 h.2.2.1).1⟩)
  obtain ⟨cc, hcc⟩ : ∃ cc, cc = cutOf cut := ⟨_, rfl⟩
  have hcc2 : min (max cut 0) 128 = (cc : Int) := by rw [hcc]; unfold cutOf; omega
  have hc128 : cc ≤ 128 := by rw [hcc]; exact cutOf_le _
  have HCC := hid hcc
  have HCUT := hid hcc2
  have HRD := hid hrd
  have HFB := hid hfb
  obtain ⟨fa, fc, hfv, _⟩ := hrd
  obtain ⟨fl, hfl⟩ : ∃ fl, fl = fates.length := ⟨_, rfl⟩
  rw [← hfl] at hfv
  have HFL := hid hfl
  clear hfl
  obtain ⟨mx, hmx⟩ : ∃ mx : Int, mx = max cut 0 := ⟨_, rfl⟩
  have hmx2 : (if cut < 0 then (0 : Int) else cut) = mx := by rw [hmx]; split <;> omega
  have hmn2 : (if mx ≤ 128 then mx else (128 : Int)) = (cc : Int) := by rw [← hcc2, hmx]; split <;> omega
  have hmn3 : (if (128 : Int) < mx then (128 : Int) else mx) = (cc : Int) := by rw [← hcc2, hmx]; split <;> omega
  have hmn4 : (if (128 : Int) < mx then (Value.int .i64 128) else Value.int .i64 mx) = Value.int .i64 (cc : Int) := by rw [← hcc2, hmx]; split <;> congr 1 <;> omega
  have hmn5 : (if mx ≤ 128 then Value.int .i64 mx else Value.int .i64 128) = Value.int .i64 (cc : Int) := by rw [← hcc2, hmx]; split <;> congr 1 <;> omega
  have hmn6 : (if mx < 128 then mx else (128 : Int)) = (cc : Int) := by rw [← hcc2, hmx]; split <;> omega
  clear h hf hwl2 hok hcc hcc2 hfb hmx
  subst hfv
  go_enter Try.func25, Try.ntmps25
  go_wp2_with fail
  clear hmx2 hmn2 hmn3 hmn4 hmn5 hmn6
  go_loopw [23] (fun i wr => ∃ k : Nat, k ≤ wl ∧ i = .int .i64 k ∧ Keeps (fun j => j = bd) w wr ∧ wr.heap[bd]? = some (.cells ((crashUpto fates cc s.way s.done k).map bv).toArray 98 (0, 0))) (fun i _ => wl - (intOf i).toNat)
  case atStart => exact ⟨0, Nat.zero_le _, rfl, Keeps.refl _ _, H.out.2.2.1⟩
  case round =>
    obtain ⟨k, hk, rfl, hkr, hd⟩ := hrel
    have HKR := hid hkr
    have HD := hid hd
    have hsr := hkr.size
    clear hkr hd
    have hbd := H.out.2.2.2.2.2.2.2.2.1
    have hnd := H.out.2.2.2.2.2.2.2.2.2.1
    have hlt := HLT.out
    have HBr := hid ((HKR.out.block b hlt.1 hbd).trans H.out.1)
    have HNr := hid ((HKR.out.block bn hlt.2.1 hnd).trans H.out.2.1)
    obtain ⟨p1, p2, p3, p4, p5, p6, p7⟩ := HOK.out
    by_cases hlt2 : k < wl
    · obtain ⟨gw, gc, ev, hgw, hcap, hcm, hrng⟩ := H.out.2.2.2.1.range (fun x hx => (p5 x hx).2) (by have := HWL.out; omega)
      have hwb := H.out.2.2.2.2.2.2.2.2.2.2.1
      rw [← HWL.out] at ev hcap
      simp only [Value.slice.injEq] at ev
      obtain ⟨ea, _, ec⟩ := ev
      subst ea ec
      have hgd : gw ≠ bd := (hwb gw rfl).2.2
      obtain ⟨x, hx⟩ : ∃ x, x = s.way.getD k (0, []) := ⟨_, rfl⟩
      have hxm : x ∈ s.way := by rw [hx, List.getD_eq_getElem?_getD, List.getElem?_eq_getElem (by have := HWL.out; omega)]; exact List.getElem_mem _
      have hx1 := (p5 x hxm).1
      have hx2 := (p5 x hxm).2
      have HTK := hid (show crashUpto fates cc s.way s.done (k + 1) = crashAt fates cc (crashUpto fates cc s.way s.done k) k x by rw [hx]; exact crashUpto_succ _ _ _ _ _)
      have hr0 := hrng k (by have := HWL.out; omega)
      rw [← hx] at hr0
      obtain ⟨WX, hWX⟩ : ∃ WX, WX = wcells x := ⟨_, rfl⟩
      rw [← hWX] at hr0
      have HWXL := hid (show WX.length = 129 by rw [hWX]; exact wcells_length x hx2)
      have HRX := hid (show wr.rangeAt gw (k * 129) WX from fun j v hv => (HKR.out.cell (p := ⟨gw, k * 129 + j, none⟩) hgw hgd).trans (hr0 j v hv))
      have HW1 := hid (show WX.toArray.all (·.oneCell') = true by rw [hWX]; exact all_oneCell_toArray (fun v hv => by
        unfold wcells at hv
        rcases List.mem_cons.1 hv with rfl | hv
        · rfl
        · simp only [List.mem_map] at hv; obtain ⟨z, _, rfl⟩ := hv; rfl))
      obtain ⟨wa, hwa⟩ : ∃ wa, wa = (wr.alloc (.cells Try.zeroCells100 100)).setRow wr.heap.size WX.toArray := ⟨_, rfl⟩
      have HGa := hid (show wa.heap[wr.heap.size]? = some (.cells WX.toArray 100 (0, 0)) by rw [hwa]; exact setRow_heap (wr.alloc _) wr.heap.size _ _ _ _ (heap_alloc_new wr _))
      have hBa : Below wr.heap.size wr wa := by rw [hwa]; exact ((Below.refl _ _).alloc (Nat.le_refl _) _).trans ⟨rfl, rfl, rfl, by simp, fun k hk => setRow_other _ _ k _ (by omega)⟩
      have HBa := hid hBa
      have HWa := hid hwa
      have HWX := hid hWX
      clear hwa hBa hWX hr0 hrng hwb hx p1 p2 p5 p6 p7
      go_upto_region 7 with (first | (refine wpList_load_mid rfl 100 (.tmp 26) rfl gw (k * 129) rfl WX _ HRX.out Try.underlying100 rfl (by rw [write_size, HWXL.out]) ?_) | (refine wpList_store_row rfl 100 (.tmp 8) (.tmp 27) rfl wr.heap.size WX.toArray rfl rfl 100 Try.zeroCells100 (heap_alloc_new wr _) (by rw [write_size]; simp [HWXL.out]) (by rw [zero_wsize]; simp [HWXL.out]) HW1.out ?_) | fail)
      rw [← HWa.out]
      have hax : wa.heap.size = wr.heap.size + 1 := by rw [HWa.out]; simp
      have HBa2 := hid ((HBa.out.block b (by omega)).trans HBr.out)
      have HNa := hid ((HBa.out.block bn (by omega)).trans HNr.out)
      have HDa := hid ((HBa.out.block bd (by omega)).trans HD.out)
      have HRDa := hid (show Rd wa (.slice fa fl fc) fates from (rd_keepsE HRD.out HKR.out (fun h j e => HFB.out h j e)).below HBa.out)
      clear c0 c1 c2 c3 c4 c5
      have hkm : k ≤ 9223372036854775807 := by omega
      go_wp2_with fail
      refine (fate_any _ fates k wa HRDa.out hkm).mono ?_
      rintro e w' ⟨rfl, rfl⟩
      go_wp2_with fail
      refine (kept_any (fateOf fates k) cc wa (fateOf_lt _ _)).mono ?_
      rintro e w' ⟨rfl, rfl⟩
      go_wp2_with fail
      have g1 : wa.cell? ⟨b, 1, none⟩ = some (.slice (some ⟨bd, 0, none⟩) s.n s.n) := (cell_of_row _ _ _ _ _ _ HBa2.out).trans rfl
      have g2 : wa.cell? ⟨wr.heap.size, 0, none⟩ = some (.int .i64 (x.1 : Int)) := by rw [cell_of_row _ _ _ _ _ _ HGa.out, HWX.out]; rfl
      have hft := kept_le (fateOf fates k) cc hc128
      obtain ⟨f, hf⟩ : ∃ f, f = keptFrom (fateOf fates k) cc := ⟨_, rfl⟩
      obtain ⟨t, ht⟩ : ∃ t, t = keptUpto (fateOf fates k) cc := ⟨_, rfl⟩
      rw [← hf, ← ht] at hft
      rw [← hf, ← ht]
      have HT2 := hid (show crashUpto fates cc s.way s.done (k + 1) = crashOne (crashUpto fates cc s.way s.done k) x f t by rw [HTK.out, hf, ht]; rfl)
      clear hf ht
      obtain ⟨cs, hcs⟩ : ∃ cs, cs = ((x.2.drop f).take (t - f)).map bv := ⟨_, rfl⟩
      have HCL := hid (show cs.length = t - f by rw [hcs, List.length_map, List.length_take, List.length_drop]; omega)
      have HC1 := hid (show ∀ v ∈ cs, v.oneCell' = true by rw [hcs]; intro v hv; simp only [List.mem_map] at hv; obtain ⟨z, _, rfl⟩ := hv; rfl)
      have HSRC := hid (show ∀ j v, cs[j]? = some v → wa.cell? ((⟨wr.heap.size, 1 + f, none⟩ : Addr).add j) = some v from fun j v hv => by
        rw [Addr.add_lit, cell_of_row _ _ _ _ _ _ HGa.out, HWX.out]
        unfold wcells
        have hj : j < t - f := by
          rcases Nat.lt_or_ge j (t - f) with h' | h'
          · exact h'
          · rw [List.getElem?_eq_none (by rw [HCL.out]; exact h')] at hv; cases hv
        rw [hcs, List.getElem?_map, List.getElem?_take_of_lt hj, List.getElem?_drop] at hv
        rw [show 1 + f + j = (f + j) + 1 by omega]
        simpa using hv)
      have hdl := crashUpto_length fates cc s.way s.done s.n hc128 p4 HOK.out.2.2.2.2.1 k (by have := HWL.out; omega)
      have HFIT := hid (show x.1 * 128 + f + cs.length ≤ ((crashUpto fates cc s.way s.done k).map bv).length by rw [List.length_map, hdl, HCL.out]; omega)
      have HSPL := hid (show (crashUpto fates cc s.way s.done (k + 1)).map bv = splice ((crashUpto fates cc s.way s.done k).map bv) (x.1 * 128 + f) cs by rw [HT2.out, hcs]; exact splice_map _ _ _ _)
      have q1 : (0 : Int) ≤ (f : Int) := by omega
      have q2 : (f : Int) ≤ (t : Int) := by omega
      have q3 : (t : Int) ≤ 128 := by omega
      have hb1 : (0 : Int) ≤ (x.1 : Int) := by omega
      have hb2 : (x.1 : Int) < (s.n : Int) := by omega
      have hnn : s.n ≤ 4096 := HOK.out.2.1
      clear hdl hcs
      obtain ⟨xi, hxi⟩ : ∃ xi, xi = x.1 := ⟨_, rfl⟩
      rw [← hxi] at g2 hb1 hb2 hx1 HFIT HSPL
      clear hxi
      have HPOS := hid (show 0 < cs.length → (some (if 128 = f then (⟨bd, xi * 128, none⟩ : Addr) else ⟨bd, xi * 128 + f, none⟩)) = some ⟨bd, xi * 128 + f, none⟩ ∧ ∃ ad, (some (if 128 = f then (⟨wr.heap.size, 1, none⟩ : Addr) else ⟨wr.heap.size, 1 + f, none⟩)) = some ad ∧ ∀ j v, cs[j]? = some v → wa.drew.cell? (ad.add j) = some v from fun h0 => by
        have hne : ¬ 128 = f := by rw [HCL.out] at h0; omega
        rw [if_neg hne, if_neg hne]
        exact ⟨rfl, _, rfl, HSRC.out⟩)
      have hbw : b < wa.drew.heap.size := by show b < wa.heap.size; omega
      have hww : wr.heap.size < wa.drew.heap.size := by show wr.heap.size < wa.heap.size; omega
      have hwd : ¬ wr.heap.size = bd := by omega
      go_wp2_with fail
      go_region_held3 (fun w' => w'.cell? ⟨b, 1, none⟩ = some (.slice (some ⟨bd, 0, none⟩) s.n s.n) ∧ w'.cell? ⟨wr.heap.size, 0, none⟩ = some (.int .i64 (xi : Int)))
        ((refine ⟨?_, ?_⟩ <;> first | assumption | exact (hk4.cell (p := ⟨b, 1, none⟩) hbw hbd).trans (by assumption) | exact (hk4.cell (p := ⟨wr.heap.size, 0, none⟩) hww hwd).trans (by assumption) | fail))
        (first | (refine step_copykeep rfl (.tmp 45) (.tmp 49) 32 32 rfl 5 Try.underlying32 byte_size (some (if 128 = f then ⟨bd, xi * 128, none⟩ else ⟨bd, xi * 128 + f, none⟩)) (some (if 128 = f then ⟨wr.heap.size, 1, none⟩ else ⟨wr.heap.size, 1 + f, none⟩)) (t - f) (128 - f) (t - f) (128 - f) rfl rfl bd (xi * 128 + f) ((crashUpto fates cc s.way s.done k).map bv) 98 HDa.out cs (HCL.out.trans (Nat.min_self _).symm) HPOS.out HFIT.out HC1.out ?_; intro w4 hg4 hk4) | fail)
      have HK4 := hid (HKR.out.trans (((Keeps.of_below HBa.out (fun i h1 h2 => by omega) : Keeps (fun j => j = bd) wr wa).drew).trans hk4))
      have HG4 := hid hg4.out
      clear hk4 hg4
      go_wp2
      go_roundw
      case rel =>
        refine ⟨k + 1, hlt2, by go_num, HK4.out, ?_⟩
        rw [HSPL.out]
        exact HG4.out
      case measure => simp [intOf]; omega
    · obtain rfl : k = wl := by omega
      obtain ⟨D, hD⟩ : ∃ D, D = crashUpto fates cc s.way s.done k := ⟨_, rfl⟩
      rw [← hD] at HD
      have hDl : D.length = s.n * 128 := by rw [hD]; exact crashUpto_length fates cc s.way s.done s.n hc128 p4 p5 k (by have := HWL.out; omega)
      have HDD := hid hD
      clear hD
      obtain ⟨w2, hw2⟩ : ∃ w2, w2 = wr := ⟨_, rfl⟩
      rw [← hw2] at HKR HD HBr HNr hsr ⊢
      clear hw2
      have e2 : w2.cell? ⟨b, 2, none⟩ = some (.slice a k c) := (cell_of_row _ _ _ _ _ _ HBr.out).trans rfl
      clear c0 c1 c2 c3 c4 c5
      have hbn : b ≠ bn := H.out.2.2.2.2.2.2.2.1
      go_wp2_with fail
      go_loopw [57] (fun i wr => ∃ j : Nat, j ≤ k ∧ i = .int .i64 j ∧ Keeps (fun z => z = bn) w2 wr ∧ wr.heap[bn]? = some (.cells ((doneAll D s.now (s.way.take j)).map bv).toArray 98 (0, 0))) (fun i _ => k - (intOf i).toNat)
      case atStart => exact ⟨0, Nat.zero_le _, rfl, Keeps.refl _ _, HNr.out⟩
      case round =>
        obtain ⟨j, hj, rfl, hkr2, hd2⟩ := hrel
        have HKR2 := hid hkr2
        have HN := hid hd2
        have hsr2 := hkr2.size
        clear hkr2 hd2
        have HBr2 := hid ((HKR2.out.block b (by omega) hbn).trans HBr.out)
        have HDr2 := hid ((HKR2.out.block bd (by omega) (fun e => hnd e.symm)).trans HD.out)
        by_cases hlt3 : j < k
        · obtain ⟨gw, gc, ev, hgw, hcap, hcm, hrng⟩ := H.out.2.2.2.1.range (fun x hx => (p5 x hx).2) (by have := HWL.out; omega)
          have hwb := H.out.2.2.2.2.2.2.2.2.2.2.1
          rw [← HWL.out] at ev hcap
          simp only [Value.slice.injEq] at ev
          obtain ⟨ea, _, ec⟩ := ev
          subst ea ec
          have hgd : gw ≠ bd := (hwb gw rfl).2.2
          have hgn : gw ≠ bn := (hwb gw rfl).2.1
          obtain ⟨x, hx⟩ : ∃ x, x = s.way.getD j (0, []) := ⟨_, rfl⟩
          have hxm : x ∈ s.way := by rw [hx, List.getD_eq_getElem?_getD, List.getElem?_eq_getElem (by have := HWL.out; omega)]; exact List.getElem_mem _
          have hx1 := (p5 x hxm).1
          have hx2 := (p5 x hxm).2
          have HTK := hid (show s.way.take (j + 1) = s.way.take j ++ [x] by rw [hx, List.take_succ_eq_append_getElem (by have := HWL.out; omega), List.getD_eq_getElem?_getD, List.getElem?_eq_getElem (by have := HWL.out; omega)]; rfl)
          have hr0 := hrng j (by have := HWL.out; omega)
          rw [← hx] at hr0
          obtain ⟨WX, hWX⟩ : ∃ WX, WX = wcells x := ⟨_, rfl⟩
          rw [← hWX] at hr0
          have HWXL := hid (show WX.length = 129 by rw [hWX]; exact wcells_length x hx2)
          have HRX := hid (show wr.rangeAt gw (j * 129) WX from fun q v hv => ((HKR2.out.cell (p := ⟨gw, j * 129 + q, none⟩) (by show gw < _; omega) hgn).trans (HKR.out.cell (p := ⟨gw, j * 129 + q, none⟩) hgw hgd)).trans (hr0 q v hv))
          have HW1 := hid (show WX.toArray.all (·.oneCell') = true by rw [hWX]; exact all_oneCell_toArray (fun v hv => by
            unfold wcells at hv
            rcases List.mem_cons.1 hv with rfl | hv
            · rfl
            · simp only [List.mem_map] at hv; obtain ⟨z, _, rfl⟩ := hv; rfl))
          obtain ⟨wa, hwa⟩ : ∃ wa, wa = (wr.alloc (.cells Try.zeroCells100 100)).setRow wr.heap.size WX.toArray := ⟨_, rfl⟩
          have HGa := hid (show wa.heap[wr.heap.size]? = some (.cells WX.toArray 100 (0, 0)) by rw [hwa]; exact setRow_heap (wr.alloc _) wr.heap.size _ _ _ _ (heap_alloc_new wr _))
          have hBa : Below wr.heap.size wr wa := by rw [hwa]; exact ((Below.refl _ _).alloc (Nat.le_refl _) _).trans ⟨rfl, rfl, rfl, by simp, fun k hk => setRow_other _ _ k _ (by omega)⟩
          have HBa := hid hBa
          have HWa := hid hwa
          have HWX := hid hWX
          clear hwa hBa hWX hr0 hrng hwb hx
          go_upto_region 13 with (first | (refine wpList_load_mid rfl 100 (.tmp 59) rfl gw (j * 129) rfl WX _ HRX.out Try.underlying100 rfl (by rw [write_size, HWXL.out]) ?_) | (refine wpList_store_row rfl 100 (.tmp 12) (.tmp 60) rfl wr.heap.size WX.toArray rfl rfl 100 Try.zeroCells100 (heap_alloc_new wr _) (by rw [write_size]; simp [HWXL.out]) (by rw [zero_wsize]; simp [HWXL.out]) HW1.out ?_) | fail)
          rw [← HWa.out]
          have hax : wa.heap.size = wr.heap.size + 1 := by rw [HWa.out]; simp
          have HBa2 := hid ((HBa.out.block b (by omega)).trans HBr2.out)
          have HNa := hid ((HBa.out.block bn (by omega)).trans HN.out)
          have HDa := hid ((HBa.out.block bd (by omega)).trans HDr2.out)
          have g0 : wa.cell? ⟨b, 0, none⟩ = some (.slice (some ⟨bn, 0, none⟩) s.n s.n) := (cell_of_row _ _ _ _ _ _ HBa2.out).trans rfl
          have g1 : wa.cell? ⟨b, 1, none⟩ = some (.slice (some ⟨bd, 0, none⟩) s.n s.n) := (cell_of_row _ _ _ _ _ _ HBa2.out).trans rfl
          have g2 : wa.cell? ⟨wr.heap.size, 0, none⟩ = some (.int .i64 (x.1 : Int)) := by rw [cell_of_row _ _ _ _ _ _ HGa.out, HWX.out]; rfl
          obtain ⟨cs, hcs⟩ : ∃ cs, cs = (sect D x.1).map bv := ⟨_, rfl⟩
          have hcl : cs.length = 128 := by rw [hcs, List.length_map]; exact sect_length _ _ _ hDl hx1
          have er : wa.rangeAt bd (x.1 * 128) cs := by rw [hcs]; exact sect_range HDa.out hDl hx1
          have hsz : (Try.prog.info? 98).map (·.size) = some cs.length := by rw [sector_size, hcl]
          have hone : ∀ v ∈ cs, v.oneCell' = true := by rw [hcs]; intro v hv; simp only [List.mem_map] at hv; obtain ⟨z, _, rfl⟩ := hv; rfl
          have hdl := doneAll_length D s.n hDl (s.way.take j) s.now p3 (fun y hy => (p5 y (List.mem_of_mem_take hy)).1)
          have eth : wa.there bn (x.1 * 128) cs.length := by
            intro q hq
            rw [hcl] at hq
            refine ⟨?_, frozen_of_row _ _ _ _ _ HNa.out⟩
            rw [cell_of_row _ _ _ _ _ _ HNa.out]
            rw [Array.getElem?_eq_getElem (by simp; omega)]
            rfl
          have hun := Try.underlying98
          have hb1 : (0 : Int) ≤ (x.1 : Int) := by omega
          have hb2 : (x.1 : Int) < (s.n : Int) := by omega
          have hnn : s.n ≤ 4096 := p2
          obtain ⟨xi, hxi⟩ : ∃ xi, xi = x.1 := ⟨_, rfl⟩
          rw [← hxi] at g2 hcs er eth hb1 hb2 hx1
          have HXI := hid hxi
          have HCS := hid hcs
          clear hxi hcs e2 p1 p2 p5 p6 p7
          have hbn2 : ¬ b = bn := hbn
          go_region_held3 (fun w' => w'.cell? ⟨b, 0, none⟩ = some (.slice (some ⟨bn, 0, none⟩) s.n s.n) ∧ w'.cell? ⟨b, 1, none⟩ = some (.slice (some ⟨bd, 0, none⟩) s.n s.n) ∧ w'.cell? ⟨wr.heap.size, 0, none⟩ = some (.int .i64 (xi : Int)) ∧ w'.rangeAt bd (xi * 128) cs ∧ w'.there bn (xi * 128) cs.length)
            ((refine ⟨?_, ?_, ?_, ?_, ?_⟩ <;> first | assumption | exact (World.cell?_setCells_out bn _ _ _ ⟨b, 0, none⟩ (fun e _ => absurd e hbn)).trans (by assumption) | exact (World.cell?_setCells_out bn _ _ _ ⟨b, 1, none⟩ (fun e _ => absurd e hbn)).trans (by assumption) | exact (World.cell?_setCells_out bn _ _ _ ⟨wr.heap.size, 0, none⟩ (fun e _ => absurd e (by simp; omega))).trans (by assumption) | (apply World.there_setCells; assumption) | (refine World.rangeAt_setCells_apart (by assumption) _ _ _ (by omega)) | fail))
            (fail)
          obtain ⟨w3, hw3⟩ : ∃ w3, w3 = wa.drew.setCells bn (xi * 128) cs := ⟨_, rfl⟩
          rw [← hw3]
          have HD3 := hid (show w3.heap[bn]? = some (.cells (splice ((doneAll D s.now (s.way.take j)).map bv) (xi * 128) cs).toArray 98 (0, 0)) by rw [hw3]; exact heap_setCells_row bn _ cs wa.drew (xi * 128) _ HNa.out (by rw [List.length_map, hdl, hcl]; omega))
          have HK3 := hid (show Keeps (fun z => z = bn) w2 w3 by
            rw [hw3]
            exact (HKR2.out.trans ((Keeps.of_below HBa.out (fun i h1 h2 => by omega)).drew)).trans (keeps_setCells bn cs wa.drew (xi * 128)))
          clear hw3
          go_wp2
          go_roundw
          case rel =>
            refine ⟨j + 1, hlt3, by go_num, HK3.out, ?_⟩
            rw [HTK.out, doneAll_snoc, ← HXI.out, doneOne_cells _ _ _ s.n hDl hx1, ← HCS.out]
            exact HD3.out
          case measure => simp [intOf]; omega
        · obtain rfl : j = k := by omega
          have hall : s.way.take j = s.way := List.take_of_length_le (by have := HWL.out; omega)
          rw [hall] at HN
          have f2 : ∀ q, wr.frozen? ⟨b, q, none⟩ = false := fun q => frozen_of_row _ _ _ _ _ HBr2.out
          have f22 := f2 2
          have f23 := f2 3
          have f24 := f2 4
          have k2 : wr.cell? ⟨b, 2, none⟩ = some (.slice a j c) := (cell_of_row _ _ _ _ _ _ HBr2.out).trans rfl
          have k3 : wr.cell? ⟨b, 3, none⟩ = some (.bool s.off) := (cell_of_row _ _ _ _ _ _ HBr2.out).trans rfl
          have k4 : wr.cell? ⟨b, 4, none⟩ = some (.int .i64 (s.armed : Int)) := (cell_of_row _ _ _ _ _ _ HBr2.out).trans rfl
          clear f2 e2
          go_wp2
          go_ret
          have hk2 : Keeps (fun q => q = b) wr (((wr.setCell ⟨b, 2, none⟩ (.slice none 0 0)).setCell ⟨b, 3, none⟩ (.bool false)).setCell ⟨b, 4, none⟩ (.int .i64 0)) := ((keeps_set _ _ _ _).trans (keeps_set _ _ _ _)).trans (keeps_set _ _ _ _)
          refine ⟨rfl, ⟨?_, ?_, ?_, OwnWay.nil _ _, H.out.2.2.2.2.1, H.out.2.2.2.2.2.1, H.out.2.2.2.2.2.2.1, hbn, hbd, hnd, (fun q hq => by cases hq), ?_⟩, ?_⟩
          · exact (heap_setCell_same _ _ _ _ _ _ (heap_setCell_same _ _ _ _ _ _ (heap_setCell_same _ _ _ _ _ _ HBr2.out))).trans (by simp [Sl.crash])
          · refine (hk2.block bn (by omega) (fun e => hbn e.symm)).trans (HN.out.trans ?_)
            simp only [Sl.crash]
            rw [← HCC.out, ← HWL.out, ← HDD.out]
          · refine (hk2.block bd (by omega) (fun e => hbd e.symm)).trans (HDr2.out.trans ?_)
            simp only [Sl.crash]
            rw [← HCC.out, ← HWL.out, ← HDD.out]
          · refine ⟨p1, p2, ?_, ?_, (fun x hx => by cases hx), by simp [Sl.crash], by simp [Sl.crash]⟩
            · simp only [Sl.crash]
              rw [← HCC.out, ← HWL.out, ← HDD.out]
              exact doneAll_length _ _ hDl _ _ p3 (fun x hx => (p5 x hx).1)
            · simp only [Sl.crash]
              rw [← HCC.out, ← HWL.out, ← HDD.out]
              exact hDl
          · exact ((HKR.out.mono (fun _ _ e => .inr (.inr e))).trans' HKR2.out (fun _ _ e => .inr (.inl e))).trans' hk2 (fun _ _ e => .inl e)

end Go.Proofs.Ytbagpckiegpalaa
