/-
  Layer 14: the document's example.
-/
import Derived.Test.YtecojmpiaaehlaaLwA
namespace Go.Proofs.Ytecojmpiaaehlaa
open Go.RowKit Go.Shelf
set_option linter.unusedVariables false

def awP : List (List Int) := [[5, 5, 0]]
def awA : List (Int × Int) := [(2, 4), (1, 5)]
def awB : List (Int × Int) := [(1, 5), (2, 4)]
theorem aw_a : planL (bndP awP) awA = [some (5, 0, [0, 2]), some (5, 0, [1])] := by decide +kernel
theorem aw_b : nowL (planL (bndP awP) awB) = [0] := by decide +kernel

theorem rda_lit {w : World} {g n : Nat} {cs : Array Value} {T : TypeId} {fr : Nat × Nat} {L : List (Int × Int)} (h : w.heap[g]? = some (.cells cs T fr)) (hc : cs.toList = acs L) (hn : n = L.length) (hl : L.length ≤ 1000) : RdA w (.slice (some ⟨g, 0, none⟩) n n) L := by
  subst hn
  refine ⟨_, _, rfl, Nat.le_refl _, by omega, fun j x hj => ⟨g, 0, rfl, (Array.getElem?_eq_some_iff.1 h).1, fun i v hv => ?_⟩⟩
  rw [cell_of_row _ _ _ _ _ _ h, ← Array.getElem?_toList, hc, Nat.zero_add]
  exact acs_at i v hj hv

set_option maxRecDepth 100000 in
set_option maxHeartbeats 2000000 in
theorem awake14_any (w : World) : Calls Try.prog 11 #[] w fun e w' => e = .returned (.bool true) ∧ Below w.heap.size w w' := by
  go_enter Try.func11, Try.ntmps11
  go_wp2_with fail
  obtain ⟨w1, hw1⟩ : ∃ w1, w1 = (w.alloc (.cells #[.int .i64 5, .int .i64 5, .int .i64 0] 3)).alloc (.cells #[.slice (some ⟨w.heap.size, 0, none⟩) 3 3] 25) := ⟨_, rfl⟩
  rw [← hw1]
  have hs1 : w1.heap.size = w.heap.size + 2 := by rw [hw1]; simp
  have hb1 : Below w.heap.size w w1 := by rw [hw1]; exact ((Below.refl _ w).alloc (Nat.le_refl _) _).alloc (by simp) _
  have g1 : w1.heap[w.heap.size]? = some (.cells #[.int .i64 5, .int .i64 5, .int .i64 0] 3 (0, 0)) := by rw [hw1, Below.heap_alloc _ _ _ (by simp)]; exact heap_alloc_new w _
  have g2 : w1.heap[w.heap.size + 1]? = some (.cells #[.slice (some ⟨w.heap.size, 0, none⟩) 3 3] 25 (0, 0)) := by
    rw [hw1]
    have := heap_alloc_new (w.alloc (.cells #[.int .i64 5, .int .i64 5, .int .i64 0] 3)) (.cells #[.slice (some ⟨w.heap.size, 0, none⟩) 3 3] 25)
    rwa [World.size_alloc] at this
  have hrp : RdP w1 (.slice (some ⟨w.heap.size + 1, 0, none⟩) 1 1) awP := by
    refine .inr ⟨w.heap.size + 1, 0, 1, rfl, Nat.le_refl _, by omega, by omega, fun i r hi => ?_⟩
    have h0 : i = 0 := by have := (List.getElem?_eq_some_iff.1 hi).1; simp [awP] at this; exact this
    subst h0
    cases hi
    refine ⟨some ⟨w.heap.size, 0, none⟩, 3, (cell_of_row _ _ _ _ _ _ g2).trans rfl, .inr ⟨w.heap.size, 0, 3, rfl, by simp, by omega, by omega, fun j x hj => ?_⟩⟩
    rw [cell_of_row _ _ _ _ _ _ g1, ← Array.getElem?_toList, Nat.zero_add]
    exact hj
  have HRP := hid hrp
  have HB1 := hid hb1
  obtain ⟨w2, hw2⟩ : ∃ w2, w2 = w1.alloc (.cells #[.int .i64 2, .int .i64 4, .int .i64 1, .int .i64 5] 34) := ⟨_, rfl⟩
  rw [← hw2]
  have hb12 : Below w1.heap.size w1 w2 := by rw [hw2]; exact (Below.refl _ w1).alloc (Nat.le_refl _) _
  have ga : w2.heap[w.heap.size + 1 + 1]? = some (.cells #[.int .i64 2, .int .i64 4, .int .i64 1, .int .i64 5] 34 (0, 0)) := by
    have : w1.heap.size = w.heap.size + 1 + 1 := by omega
    rw [hw2, ← this]; exact heap_alloc_new w1 _
  have hpl := plan_any w2 _ _ awP awA (hrp.all hb12) (by simp [awP]) (by intro r hr; simp [awP] at hr; subst hr; simp) (rda_lit ga rfl rfl (by simp [awA])) (by simp [awA])
  rw [aw_a] at hpl
  refine hpl.mono ?_
  rintro e w3 ⟨u, rfl, hst, hb3⟩
  have hb13 := hb12.trans (hb3.mono hb12.size)
  have HB13 := hid hb13
  have hs13 := hb13.size
  obtain ⟨ua, uc, rfl, hu1, hu2⟩ := hst.len
  have HST := hid hst
  clear hw1 hw2 g1 g2 hrp hb1 hb12 ga hpl hst hb3 hb13
  go_wp2_with fail
  obtain ⟨w4, hw4⟩ : ∃ w4, w4 = w3.alloc (.cells #[.int .i64 1, .int .i64 5, .int .i64 2, .int .i64 4] 34) := ⟨_, rfl⟩
  rw [← hw4]
  have hb34 : Below w3.heap.size w3 w4 := by rw [hw4]; exact (Below.refl _ w3).alloc (Nat.le_refl _) _
  have gb : w4.heap[w3.heap.size]? = some (.cells #[.int .i64 1, .int .i64 5, .int .i64 2, .int .i64 4] 34 (0, 0)) := by rw [hw4]; exact heap_alloc_new w3 _
  have hnl := now_any w4 _ _ awP awB (HRP.out.all (HB13.out.trans (hb34.mono hs13))) (by simp [awP]) (by intro r hr; simp [awP] at hr; subst hr; simp) (rda_lit gb rfl rfl (by simp [awB])) (by simp [awB])
  rw [aw_b] at hnl
  refine hnl.mono ?_
  rintro e w5 ⟨v, rfl, hv, hb5⟩
  have hb35 := hb34.trans (hb5.mono hb34.size)
  have HST5 := HST.out.below hb35
  obtain ⟨va, vc, rfl, hv1, hv2⟩ := owns_slice hv
  obtain ⟨-, gv, ov, rfl, -, hcv⟩ := (RdV.of_own hv).at 0 (iv 0) rfl
  obtain ⟨b, rfl, -, -, u0, hr0, ho0⟩ := HST5.at 0 _ rfl
  obtain ⟨b', eb, -, -, u1, hr1, ho1⟩ := HST5.at 1 _ rfl
  cases eb
  obtain ⟨xa, xc, rfl, hx1, hx2⟩ := owns_slice ho0
  obtain ⟨-, gx, ox, rfl, -, hcx⟩ := (RdV.of_own ho0).at 1 (iv 2) rfl
  have c0 : w5.cell? ⟨b, 0, none⟩ = some (.int .i64 5) := hr0 0 _ rfl
  have c2 : w5.cell? ⟨b, 2, none⟩ = some (.slice (some ⟨gx, ox, none⟩) 2 xc) := hr0 2 _ rfl
  have c4 : w5.cell? ⟨b, 4, none⟩ = some (.int .i64 5) := hr1 0 _ rfl
  have cx : w5.cell? ⟨gx, ox + 1, none⟩ = some (.int .i64 2) := hcx
  have cv : w5.cell? ⟨gv, ov + 0, none⟩ = some (.int .i64 0) := hcv
  rw [Nat.add_zero] at cv
  have HBB := hid (HB1.out.trans ((HB13.out.mono (by omega)).trans (hb35.mono (by omega))))
  clear hw4 hb34 gb hnl hb35 HST5 hv hb5 hr0 ho0 hr1 ho1 hcv hcx
  simp only [List.length_cons, List.length_nil] at *
  go_wp2_with fail
  go_ret
  exact ⟨rfl, HBB.out⟩

end Go.Proofs.Ytecojmpiaaehlaa
