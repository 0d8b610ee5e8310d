/-
  The Heap's New, Has, Len, Push, Pop, Peek.
-/
import Derived.Test.YtcgfechodbmimaaPrX
import Derived.Laws.ResultCell
import Derived.Laws.Rows
namespace Go.Proofs.Ytcgfechodbmimaa
open Go.RowKit Go.ChangeMaps
set_option linter.unusedVariables false
set_option linter.unusedSimpArgs false

theorem zero_int (w : World) : (zeroValue 3).run Try.prog w = .ok (.int .i64 0) w := by kernel_rfl

set_option maxRecDepth 100000 in
set_option maxHeartbeats 1000000 in
theorem new11_any (w : World) : Calls Try.prog 6 #[] w fun e w' => e = .returned (.pointer (some ⟨w.heap.size + 1, 0, none⟩)) ∧ RwAt w' w.heap.size (w.heap.size + 1) (.slice none 0 0) w.heap.size [] ∧ Below w.heap.size w w' := by
  obtain ⟨w1, hw1⟩ : ∃ w1, w1 = w.alloc (.map #[] 0) := ⟨_, rfl⟩
  obtain ⟨w2, hw2⟩ : ∃ w2, w2 = w1.alloc (.cells #[.slice none 0 0, .map (some w.heap.size)] 53) := ⟨_, rfl⟩
  have hs1 : w1.heap.size = w.heap.size + 1 := by rw [hw1]; simp
  have hb1 : Below w.heap.size w w1 := by rw [hw1]; exact (Below.refl _ w).alloc (Nat.le_refl _) _
  have hb2 : Below w1.heap.size w1 w2 := by rw [hw2]; exact (Below.refl _ w1).alloc (Nat.le_refl _) _
  have HQ := hid (show RwAt w2 w.heap.size (w.heap.size + 1) (.slice none 0 0) w.heap.size [] from by
    refine ⟨by rw [hw2, ← hs1]; exact heap_alloc_new w1 _, ⟨rfl, .inl ⟨rfl, rfl⟩⟩, ?_, by omega, Nat.le_refl _, fun x hx => (by cases hx), List.nodup_nil, Nat.zero_le _⟩
    refine (MpF.block (w := w1) ?_ (hb2.block _ (by omega))).ext (Nat.le_refl _) fun z _ => rfl
    rw [hw1]; exact MpF.new w)
  have HB := hid (hb1.trans (hb2.mono (by omega)))
  have hmm := @run_makeMap Try.prog
  go_enter Try.func6, Try.ntmps6
  go_wp2_with fail
  rw [← hw1, ← hw2]
  try rw [hs1]
  go_ret
  exact ⟨rfl, HQ.out, HB.out⟩

set_option maxRecDepth 100000 in
set_option maxHeartbeats 1000000 in
theorem has11_any (w : World) (lo b m : Nat) (v : Value) (q : List It) (z : Int) (h : RwAt w lo b v m q) (hz : kw z) :
    Calls Try.prog 14 #[.pointer (some ⟨b, 0, none⟩), .int .u32 z] w fun e w' => e = .returned (.bool (plc q z).isSome) ∧ w = w' := by
  have c1 : w.cell? ⟨b, 1, none⟩ = some (.map (some m)) := (cell_of_row w _ _ _ _ _ h.blk).trans rfl
  obtain ⟨x, hrun, -⟩ := h.mp.look hz (zero_int w)
  clear h
  generalize (plc q z).isSome = R at *
  go_enter Try.func14, Try.ntmps14
  go_wp2_with fail
  go_ret
  exact ⟨rfl, rfl⟩

set_option maxRecDepth 100000 in
set_option maxHeartbeats 1000000 in
theorem len11_any (w : World) (lo b m : Nat) (v : Value) (q : List It) (h : RwAt w lo b v m q) :
    Calls Try.prog 17 #[.pointer (some ⟨b, 0, none⟩)] w fun e w' => e = .returned (.int .i64 (q.length : Nat)) ∧ w = w' := by
  have HL := hid (qlen_any w lo b m v q h)
  clear h
  generalize q.length = n at *
  go_enter Try.func17, Try.ntmps17
  go_wp2_with (first | (go_at_call 27; (with_reducible refine HL.out.mono ?_); rintro e w1 ⟨rfl, rfl⟩) | fail)
  go_ret
  exact ⟨rfl, rfl⟩

set_option maxRecDepth 100000 in
set_option maxHeartbeats 2000000 in
theorem push11_no (w : World) (lo b m : Nat) (v : Value) (q : List It) (x : It) (h : RwAt w lo b v m q) (hx : kw x.1) (hn : (plc q x.1).isSome = true) :
    Calls Try.prog 8 #[.pointer (some ⟨b, 0, none⟩), itv x] w fun e w' => e = .returned (.int .i64 7) ∧ Below w.heap.size w w' := by
  obtain ⟨x0, x1, x2⟩ := x
  unfold itv
  dsimp only at *
  have HHS := hid (fun W hR => by have h1 := has11_any W lo b m v q x0 hR hx; rw [hn] at h1; exact h1)
  have H := hid h
  clear h hx hn
  go_enter Try.func8, Try.ntmps8
  obtain ⟨w1, hw1⟩ : ∃ w1, w1 = w.alloc (.cells #[.int .u32 x0, .int .u8 x1, .int .u32 x2] 32) := ⟨_, rfl⟩
  have hb1 : Below w.heap.size w w1 := by rw [hw1]; exact (Below.refl _ w).alloc (Nat.le_refl _) _
  have HR1 := hid (H.out.below hb1)
  have HB1 := hid hb1
  rw [hw1] at HR1 HB1
  clear hw1 hb1
  go_wp2_with (first | (go_at_call 14; (with_reducible refine (HHS.out _ HR1.out).mono ?_); rintro e w2 ⟨rfl, rfl⟩) | fail)
  go_ret
  exact ⟨rfl, HB1.out⟩

set_option maxRecDepth 100000 in
set_option maxHeartbeats 4000000 in
theorem push11_yes (w : World) (lo b m : Nat) (v : Value) (q : List It) (x : It) (h : RwAt w lo b v m q) (hh : HeapN q q.length) (hx : kw x.1) (hn : plc q x.1 = none) (hl : q.length < 10000) (hlo : lo ≤ w.heap.size) :
    Calls Try.prog 8 #[.pointer (some ⟨b, 0, none⟩), itv x] w fun e w' => e = .returned (.int .i64 0) ∧ ∃ v' q', RwAt w' lo b v' m q' ∧ HeapN q' q'.length ∧ q'.Perm (x :: q) ∧ Keeps (Hb b m v) w w' ∧ ∀ k, v'.ownBlock = some k → v.ownBlock = some k ∨ w.heap.size ≤ k := by
  obtain ⟨x0, x1, x2⟩ := x
  have HHS := hid (fun W hR => by have h1 := has11_any W lo b m v q x0 hR hx; rw [hn] at h1; exact h1)
  have HHP := hid (fun W hR hW => hpush_any W lo b m v q (x0, x1, x2) hR hh hx hn hl hW)
  unfold itv at *
  dsimp only at *
  have H := hid h
  have hlb := h.lt
  clear h hh hx hn hl
  go_enter Try.func8, Try.ntmps8
  obtain ⟨w1, hw1⟩ : ∃ w1, w1 = w.alloc (.cells #[.int .u32 x0, .int .u8 x1, .int .u32 x2] 32) := ⟨_, rfl⟩
  have hb1 : Below w.heap.size w w1 := by rw [hw1]; exact (Below.refl _ w).alloc (Nat.le_refl _) _
  have hs1 : w1.heap.size = w.heap.size + 1 := by rw [hw1]; simp
  have hbox : w1.heap[w.heap.size]? = some (.cells #[.int .u32 x0, .int .u8 x1, .int .u32 x2] 32 (0, 0)) := by rw [hw1]; exact heap_alloc_new w _
  have HR1 := hid (H.out.below hb1)
  have HB1 := hid hb1
  have HW1 := hid hw1
  rw [hw1] at HR1
  go_wp2_with (first | (go_at_call 14; (with_reducible refine (HHS.out _ HR1.out).mono ?_); rintro e w2 ⟨rfl, rfl⟩) | fail)
  rw [← hw1]
  rw [← hw1] at HR1
  have e0 : w1.drew.cell? ⟨w.heap.size, 0, none⟩ = some (.int .u32 x0) := (cell_of_row w1 _ _ _ _ _ hbox).trans rfl
  have e1 : w1.drew.cell? ⟨w.heap.size, 1, none⟩ = some (.int .u8 x1) := (cell_of_row w1 _ _ _ _ _ hbox).trans rfl
  have e2 : w1.drew.cell? ⟨w.heap.size, 2, none⟩ = some (.int .u32 x2) := (cell_of_row w1 _ _ _ _ _ hbox).trans rfl
  have HRD := hid (show RwAt w1.drew lo b v m q from HR1.out.below ((Below.refl _ _).drew))
  have HSD := hid (show w1.drew.heap.size = w.heap.size + 1 from hs1)
  have HKB := hid (fun (w3 : World) (hk : Keeps (Hb b m v) w1.drew w3) => show Keeps (Hb b m v) w w3 from Keeps.trans' (Keeps.of_below (S := Hb b m v) HB1.out.drew fun i hi hge => absurd hi (by omega)) hk fun i _ h => h)
  have hxb : w.heap.size ≠ b := by omega
  have hxm : w.heap.size ≠ m := by have := H.out.mp.lt; omega
  have HXV := hid (fun k (hk : v.ownBlock = some k) => show w.heap.size ≠ k by have := (World.ownsRow.lt H.out.own k hk).2; omega)
  have HXN := hid (show ¬ Hb b m v w.heap.size from by
    rintro (h | h | h)
    · exact hxb h
    · exact hxm h
    · exact HXV.out _ h rfl)
  clear hw1 hb1 hbox hs1
  go_region_held3 (fun w' => w'.cell? ⟨w.heap.size, 0, none⟩ = some (.int .u32 x0) ∧ w'.cell? ⟨w.heap.size, 1, none⟩ = some (.int .u8 x1) ∧ w'.cell? ⟨w.heap.size, 2, none⟩ = some (.int .u32 x2))
    (first | (with_reducible refine ⟨?_, ?_, ?_⟩ <;> assumption) | fail)
    (first
      | (go_at_call 19; (with_reducible refine (HHP.out _ HRD.out (by rw [HSD.out]; omega)).mono ?_); rintro e w3 ⟨rfl, v3, q3, hr3, hh3, hp3, hk3, ho3⟩; have HR3 := hid hr3; have HH3 := hid hh3; have HP3 := hid hp3; have HK3 := hid (HKB.out w3 hk3); have HO3 := hid ho3; have ek := hk3.block w.heap.size (by rw [HSD.out]; omega) HXN.out; have r0 := (World.cell?_of_block (a := ⟨w.heap.size, 0, none⟩) ek).trans e0; have r1 := (World.cell?_of_block (a := ⟨w.heap.size, 1, none⟩) ek).trans e1; have r2 := (World.cell?_of_block (a := ⟨w.heap.size, 2, none⟩) ek).trans e2; clear hr3 hh3 hp3 hk3 ho3 ek)
      | fail)
  go_wp2
  go_ret
  exact ⟨rfl, v3, q3, HR3.out, HH3.out, HP3.out, HK3.out, fun k hk => by
    rcases HO3.out k hk with h | h
    · exact .inl h
    · exact .inr (by have := HSD.out; omega)⟩

theorem results_cell2' {fn : Func} {p u : Tmp} {ty : TypeId} (h : fn.results = #[.cell p ty, .tmp u]) (tmps : Array Value) (w : World) (v : Value) (g : Nat) (t : TypeId) (cs : Array Value) (fr : Nat × Nat) (fs : Array Field)
    (hp : tmps.getD p undef = .pointer (some ⟨g, 0, none⟩)) (hv : tmps.getD u undef = v) (hg : w.heap[g]? = some (.cells cs t fr))
    (hu : Try.prog.underlying ty = some (.struct fs)) (hi : (Try.prog.info? ty).map (·.size) = some cs.size) :
    (results fn tmps).run Try.prog w = .ok (.tuple #[.agg cs, v]) w := by
  rw [results_cell_tmp h, hp, hv]
  simp [asAddr, run_loadVar_row w g t ty cs fr (.struct fs) hg hu rfl hi]
theorem set3_heap {w : World} {g : Nat} {a b c A B C : Value} {t : TypeId} (h : w.heap[g]? = some (.cells #[a, b, c] t (0, 0))) : (((w.setCell ⟨g, 0, none⟩ A).setCell ⟨g, 1, none⟩ B).setCell ⟨g, 2, none⟩ C).heap[g]? = some (.cells #[A, B, C] t (0, 0)) := by
  rw [heap_setCell_arr' _ _ _ _ _ _ _ (heap_setCell_arr' _ _ _ _ _ _ _ (heap_setCell_arr' _ _ _ _ _ _ _ h))]; simp
theorem RwAt.keeps {S : Nat → Prop} {w w' : World} {lo b : Nat} {v : Value} {m : Nat} {q : List It} (h : RwAt w lo b v m q) (hk : Keeps S w w') (hS : ∀ k, Hb b m v k → ¬ S k) : RwAt w' lo b v m q :=
  { h with blk := (hk.block b h.lt (hS b (.inl rfl))).trans h.blk, own := owns_by h.own fun k e => hk.block k (World.ownsRow.lt h.own k e).2 (hS k (.inr (.inr e))), mp := h.mp.block (hk.block m h.mp.lt (hS m (.inr (.inl rfl)))) }
set_option maxRecDepth 100000 in
set_option maxHeartbeats 4000000 in
theorem pop11_yes (w : World) (lo b m : Nat) (v : Value) (q : List It) (n : Nat) (h : RwAt w lo b v m q) (hh : HeapN q q.length) (hn : q.length = n + 1) :
    Calls Try.prog 9 #[.pointer (some ⟨b, 0, none⟩)] w fun e w' => e = .returned (.tuple #[itv (it q 0), .bool true]) ∧ ∃ v' q', RwAt w' lo b v' m q' ∧ HeapN q' q'.length ∧ (it q 0 :: q').Perm q ∧ Keeps (Hb b m v) w w' ∧ v'.ownBlock = v.ownBlock := by
  have H := hid h
  have hlb := h.lt
  have HL := hid (fun W hR => by have h1 := len11_any W lo b m v q hR; rw [hn] at h1; exact h1)
  have HP := hid (fun W hR => hpop_any W lo b m v q n hR hh hn)
  obtain ⟨x, hx⟩ : ∃ x, x = it q 0 := ⟨_, rfl⟩
  rw [← hx] at HP
  obtain ⟨x0, x1, x2⟩ := x
  rw [← hx]
  have HX := hid hx
  unfold itv at *
  dsimp only at *
  have hta := fun W => assert_it (.agg #[.int .u32 x0, .int .u8 x1, .int .u32 x2]) W
  obtain ⟨w1, hw1⟩ : ∃ w1, w1 = w.alloc (.cells #[.int .u32 0, .int .u8 0, .int .u32 0] 32) := ⟨_, rfl⟩
  have hb1 : Below w.heap.size w w1 := by rw [hw1]; exact (Below.refl _ w).alloc (Nat.le_refl _) _
  have hs1 : w1.heap.size = w.heap.size + 1 := by rw [hw1]; simp
  have hbox : w1.heap[w.heap.size]? = some (.cells #[.int .u32 0, .int .u8 0, .int .u32 0] 32 (0, 0)) := by rw [hw1]; exact heap_alloc_new w _
  have HR1 := hid (H.out.below hb1)
  have HSD := hid hs1
  have HBX := hid hbox
  have HXN := hid (show ¬ Hb b m v w.heap.size from by
    rintro (h | h | h)
    · omega
    · have := H.out.mp.lt; omega
    · have := (World.ownsRow.lt H.out.own _ h).2; omega)
  have HKB := hid (fun (w3 : World) (hk : Keeps (Hb b m v) w1 w3) => show Keeps (Hb b m v) w w3 from Keeps.trans' (Keeps.of_below (S := Hb b m v) hb1 fun i hi hge => absurd hi (by omega)) hk fun i _ h => h)
  clear h hh hn hx hb1 hs1 hbox
  go_enter Try.func9, Try.ntmps9
  rw [hw1] at HR1 HSD HBX HKB
  go_wp2_with (first
    | (go_at_call 17; (with_reducible refine (HL.out _ HR1.out).mono ?_); rintro e w2 ⟨rfl, rfl⟩)
    | (go_at_call 20; (with_reducible refine (HP.out _ HR1.out).mono ?_); rintro e w3 ⟨rfl, v3, q3, hr3, hh3, hp3, hk3, ho3⟩; have HR3 := hid hr3; have HH3 := hid hh3; have HP3 := hid hp3; have HK3 := hid (HKB.out w3 hk3); have HO3 := hid ho3; have g3 := (hk3.block w.heap.size (by rw [HSD.out]; omega) HXN.out).trans HBX.out; have r0 : w3.cell? ⟨w.heap.size, 0, none⟩ = some (.int .u32 0) := (cell_of_row _ _ _ _ _ _ g3).trans rfl; have r1 : w3.cell? ⟨w.heap.size, 1, none⟩ = some (.int .u8 0) := (cell_of_row _ _ _ _ _ _ g3).trans rfl; have r2 : w3.cell? ⟨w.heap.size, 2, none⟩ = some (.int .u32 0) := (cell_of_row _ _ _ _ _ _ g3).trans rfl; have f0 : w3.frozen? ⟨w.heap.size, 0, none⟩ = false := frozen_of_row _ _ _ _ _ g3; have f1 : w3.frozen? ⟨w.heap.size, 1, none⟩ = false := frozen_of_row _ _ _ _ _ g3; have f2 : w3.frozen? ⟨w.heap.size, 2, none⟩ = false := frozen_of_row _ _ _ _ _ g3; have HG3 := hid g3; clear hr3 hh3 hp3 hk3 ho3 g3)
    | fail)
  obtain ⟨w4, hw4⟩ : ∃ w4, w4 = ((w3.setCell ⟨w.heap.size, 0, none⟩ (.int .u32 x0)).setCell ⟨w.heap.size, 1, none⟩ (.int .u8 x1)).setCell ⟨w.heap.size, 2, none⟩ (.int .u32 x2) := ⟨_, rfl⟩
  have hg4 : w4.heap[w.heap.size]? = some (.cells #[.int .u32 x0, .int .u8 x1, .int .u32 x2] 32 (0, 0)) := by rw [hw4]; exact set3_heap HG3.out
  have hk4 : Keeps (fun k => k = w.heap.size) w3 w4 := by 
    have k0 : Keeps (fun k => k = w.heap.size) w3 w3 := ⟨rfl, rfl, rfl, Nat.le_refl _, fun _ _ _ => rfl⟩
    rw [hw4]
    exact ((k0.setCell (p := ⟨w.heap.size, 0, none⟩) (fun _ => rfl) _).setCell (p := ⟨w.heap.size, 1, none⟩) (fun _ => rfl) _).setCell (p := ⟨w.heap.size, 2, none⟩) (fun _ => rfl) _
  rw [← hw4]
  refine bodyPost_ret (results_cell2' rfl _ _ _ w.heap.size 32 _ (0, 0) _ rfl rfl hg4 Try.underlying32 (by kernel_rfl)) rfl ?_
  refine ⟨rfl, v3, q3, HR3.out.keeps hk4 (fun k hs e => ?_), HH3.out, HP3.out, Keeps.trans' HK3.out hk4 (fun i hi e => absurd hi (by omega)), HO3.out⟩
  rw [e] at hs
  rcases hs with h | h | h
  · exact HXN.out (.inl h)
  · exact HXN.out (.inr (.inl h))
  · exact HXN.out (.inr (.inr (by rw [← HO3.out]; exact h)))

set_option maxRecDepth 100000 in
set_option maxHeartbeats 4000000 in
theorem pop11_no (w : World) (lo b m : Nat) (v : Value) (h : RwAt w lo b v m []) :
    Calls Try.prog 9 #[.pointer (some ⟨b, 0, none⟩)] w fun e w' => e = .returned (.tuple #[itv (0, 0, 0), .bool false]) ∧ Below w.heap.size w w' := by
  have H := hid h
  have HL := hid (fun W hR => len11_any W lo b m v [] hR)
  unfold itv
  obtain ⟨w1, hw1⟩ : ∃ w1, w1 = w.alloc (.cells #[.int .u32 0, .int .u8 0, .int .u32 0] 32) := ⟨_, rfl⟩
  have hb1 : Below w.heap.size w w1 := by rw [hw1]; exact (Below.refl _ w).alloc (Nat.le_refl _) _
  have hbox : w1.heap[w.heap.size]? = some (.cells #[.int .u32 0, .int .u8 0, .int .u32 0] 32 (0, 0)) := by rw [hw1]; exact heap_alloc_new w _
  have HR1 := hid (H.out.below hb1)
  have HB1 := hid hb1
  have HBX := hid hbox
  rw [hw1] at HR1
  clear h hb1
  have r0 : w1.cell? ⟨w.heap.size, 0, none⟩ = some (.int .u32 0) := (cell_of_row _ _ _ _ _ _ hbox).trans rfl
  have r1 : w1.cell? ⟨w.heap.size, 1, none⟩ = some (.int .u8 0) := (cell_of_row _ _ _ _ _ _ hbox).trans rfl
  have r2 : w1.cell? ⟨w.heap.size, 2, none⟩ = some (.int .u32 0) := (cell_of_row _ _ _ _ _ _ hbox).trans rfl
  have f0 : w1.frozen? ⟨w.heap.size, 0, none⟩ = false := frozen_of_row _ _ _ _ _ hbox
  have f1 : w1.frozen? ⟨w.heap.size, 1, none⟩ = false := frozen_of_row _ _ _ _ _ hbox
  have f2 : w1.frozen? ⟨w.heap.size, 2, none⟩ = false := frozen_of_row _ _ _ _ _ hbox
  clear hbox
  go_enter Try.func9, Try.ntmps9
  go_wp2_with (first
    | (go_at_call 17; (with_reducible refine (HL.out _ HR1.out).mono ?_); rintro e w2 ⟨rfl, rfl⟩)
    | fail)
  rw [← hw1]
  refine bodyPost_ret (results_cell2' rfl _ _ _ w.heap.size 32 _ (0, 0) _ rfl rfl HBX.out Try.underlying32 (by kernel_rfl)) rfl ?_
  exact ⟨rfl, HB1.out⟩

end Go.Proofs.Ytcgfechodbmimaa
