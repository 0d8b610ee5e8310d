/-
  The law's same: a heap has just these, in order.
-/
import Derived.Test.YtcgfechodbmimaaPrRm
import Derived.BigQuiet
import Derived.StillTailTactics
namespace Go.Proofs.Ytcgfechodbmimaa
open Go.RowKit Go.ChangeMaps
set_option linter.unusedVariables false
set_option linter.unusedSimpArgs false

theorem quiet_firstP {P : Program} {f : FuncId} {args : Array Value} {w : World} {n : Nat} {v : Value} (h : Calls P f args (w.drewN n) fun e w' => e = .returned v ∧ w.drewN n = w') :
    Calls P f args (w.drewN n) fun e w' => e = .returned v ∧ ∃ m, w' = w.drewN m :=
  h.mono fun _ _ h => ⟨h.1, n, h.2.symm⟩

theorem RwAt.drewN {w : World} {lo b : Nat} {v : Value} {m : Nat} {q : List It} (h : RwAt w lo b v m q) (n : Nat) : RwAt (w.drewN n) lo b v m q :=
  h.below ⟨rfl, rfl, rfl, Nat.le_refl _, fun _ _ => rfl⟩

theorem rootIs {q : List It} {n : Nat} (hh : HeapN q q.length) (hi : IdsApart q) (hn : q.length = n + 1) : it (inOrder q) 0 = it q 0 := by
  have hl := inOrder_len q
  by_cases e : it (inOrder q) 0 = it q 0
  · exact e
  · exfalso
    have hm : it (inOrder q) 0 ∈ q := (inOrder_perm q).mem_iff.1 (it_mem (by omega))
    obtain ⟨j, hj⟩ := List.getElem?_of_mem hm
    have h1 := hh.root j (List.getElem?_eq_some_iff.1 hj).1
    rw [it_get hj] at h1
    rcases bef_total e with h | h
    · exact h1 h
    · have hm2 : it q 0 ∈ inOrder q := (inOrder_perm q).mem_iff.2 (it_mem (by omega))
      obtain ⟨t, ht⟩ := List.getElem?_of_mem hm2
      have htl := (List.getElem?_eq_some_iff.1 ht).1
      by_cases h0 : t = 0
      · subst h0
        rw [it_some (by omega)] at ht
        exact e (Option.some.inj ht)
      · have h4 := List.pairwise_iff_getElem.1 (inOrder_sorted q hi) 0 t (by omega) htl (by omega)
        have h5 := it_some (q := inOrder q) (k := 0) (by omega)
        rw [List.getElem?_eq_getElem (by omega)] at h5
        rw [List.getElem?_eq_getElem htl] at ht
        rw [Option.some.inj h5, Option.some.inj ht] at h4
        exact bef_asym h h4

set_option maxRecDepth 100000 in
set_option maxHeartbeats 8000000 in
theorem same11_yes (w : World) (lo b m : Nat) (v : Value) (q : List It) (n : Nat) (S : Nat → Prop) (u : Value) (h : RwAt w lo b v m q) (hh : HeapN q q.length) (hn : q.length = n + 1) (hu : RdL w S u (inOrder q)) :
    Calls Try.prog 13 #[.pointer (some ⟨b, 0, none⟩), u] w fun e w' => e = .returned (.bool true) ∧ Below w.heap.size w w' := by
  obtain ⟨au, cu, rfl, hlc, hcm, h4⟩ := id hu
  have hrf := rootIs hh h.ids hn
  obtain ⟨gu, ou, rfl, hgu, -⟩ := h4 0 (by rw [inOrder_len]; omega)
  have HLI := hid (list11_any w lo b m v q h)
  have HPK := hid (fun W hR => peek11_yes W lo b m v q n hR hn)
  have HLE := hid (fun W hR => by have h1 := len11_any W lo b m v q hR; rw [hn] at h1; exact h1)
  have HR := hid h
  obtain ⟨A, hA⟩ : ∃ A, A = inOrder q := ⟨_, rfl⟩
  have hAL : A.length = n + 1 := by rw [hA, inOrder_len, hn]
  rw [← hA] at hrf HLI hu hlc ⊢
  rw [← hrf] at HPK
  unfold itv at HPK
  obtain ⟨N, hN⟩ : ∃ N, N = n + 1 := ⟨_, rfl⟩
  rw [← hN] at hn hAL HLE
  rw [show q.length = A.length by rw [hAL, hn]] at HLI
  have HAL := hid hAL
  have HU := hid hu
  have hn1 : N ≤ 10000 := by have := h.len; omega
  have HN1 := hid hn1
  rw [hAL] at HLI hlc ⊢
  have HRU := hid (fun (W : World) (hb : Below w.heap.size w W) (k : Nat) (hk : k < N) => show W.cell? ⟨gu, ou + k * 3, none⟩ = some (.int .u32 (it A k).1) ∧ W.cell? ⟨gu, ou + k * 3 + 1, none⟩ = some (.int .u8 (it A k).2.1) ∧ W.cell? ⟨gu, ou + k * 3 + 2, none⟩ = some (.int .u32 (it A k).2.2) from by
    have h5 := hu.below hb
    have hkk : k < A.length := by omega
    refine ⟨?_, ?_, ?_⟩
    · have := h5.cels (k * 3 + 0) _ (cels_at A k 0 _ hkk rfl); rw [Nat.add_zero] at this; exact this
    · exact h5.cels (k * 3 + 1) _ (cels_at A k 1 _ hkk rfl)
    · exact h5.cels (k * 3 + 2) _ (cels_at A k 2 _ hkk rfl))
  have hpos : (0 : Int) < (N : Int) := by omega
  have hposn : 0 < N := by omega
  have HNN := hid hN
  clear h hh hn hu h4 hA hAL hrf hN
  go_enter Try.func13, Try.ntmps13
  go_upto_region 1 with (fail)
  go_wp2_with (first
    | (go_at_call 16; (with_reducible refine HLI.out.mono ?_); rintro e w1 ⟨vk, rfl, ho1, hb1⟩; obtain ⟨ak, ck, rfl, hck1, hck2⟩ := owns_slice ho1; have HO1 := hid ho1; have HB1 := hid hb1; have HPK1 := hid (HPK.out w1 (HR.out.below hb1)); clear ho1 hb1)
    | (go_at_call 23; (with_reducible refine HPK1.out.mono ?_); rintro e w2 ⟨rfl, hb2⟩; have HB2 := hid hb2; clear hb2)
    | fail)
  obtain ⟨w3, hw3⟩ : ∃ x, x = w2.alloc (.cells #[.int .u32 (it A 0).1, .int .u8 (it A 0).2.1, .int .u32 (it A 0).2.2] 32) := ⟨_, rfl⟩
  have hb3 : Below w2.heap.size w2 w3 := by rw [hw3]; exact (Below.refl _ _).alloc (Nat.le_refl _) _
  have hg3 : w3.heap[w2.heap.size]? = some (.cells #[.int .u32 (it A 0).1, .int .u8 (it A 0).2.1, .int .u32 (it A 0).2.2] 32 (0, 0)) := by rw [hw3]; exact heap_alloc_new w2 _
  rw [← hw3]
  have HB3 := hid (HB1.out.trans ((HB2.out.trans (hb3.mono HB2.out.size)).mono HB1.out.size))
  have HO3 := hid (owns_below HO1.out (HB2.out.trans (hb3.mono HB2.out.size)))
  have HR3 := hid (HR.out.below HB3.out)
  have q0 : w3.cell? ⟨w2.heap.size, 0, none⟩ = some (.int .u32 (it A 0).1) := (cell_of_row _ _ _ _ _ _ hg3).trans rfl
  have q1 : w3.cell? ⟨w2.heap.size, 1, none⟩ = some (.int .u8 (it A 0).2.1) := (cell_of_row _ _ _ _ _ _ hg3).trans rfl
  have q2 : w3.cell? ⟨w2.heap.size, 2, none⟩ = some (.int .u32 (it A 0).2.2) := (cell_of_row _ _ _ _ _ _ hg3).trans rfl
  obtain ⟨x0, x1, x2⟩ := HRU.out w3 HB3.out 0 hposn
  rw [Nat.zero_mul, Nat.add_zero] at x0 x1 x2
  clear hw3 hb3 hg3
  go_quiet ((first
    | (go_at_call 17; exact quiet_firstP (HLE.out _ (HR3.out.drewN _))))) 
  obtain ⟨w4, hw4⟩ : ∃ x, x = w3.drewN nq := ⟨_, rfl⟩
  have HB4 := hid (show Below w.heap.size w w4 by rw [hw4]; exact ⟨HB3.out.os, HB3.out.tape, HB3.out.output, HB3.out.size, HB3.out.block⟩)
  have HO4 := hid (show w4.ownsRow w.heap.size 32 3 (.slice ak N ck) N (cels A) by rw [hw4]; exact HO3.out)
  obtain ⟨gk, rfl⟩ : ∃ g, ak = some ⟨g, 0, none⟩ := by
    rcases owns_shape HO4.out with ⟨_, e⟩ | ⟨g, cap, e, _⟩
    · omega
    · simp only [Value.slice.injEq] at e
      exact ⟨g, e.1⟩
  rw [← hw4]
  clear hw4 q0 q1 q2 x0 x1 x2
  go_wp2_with fail
  go_loopw [47] (fun i wr => ∃ k : Nat, i = .int .i64 k ∧ k ≤ N ∧ Below w4.heap.size w4 wr) (fun i _ => N - (intOf i).toNat)
  case atStart => exact ⟨0, rfl, Nat.zero_le _, Below.refl _ _⟩
  case round =>
    obtain ⟨k, rfl, hk, hB⟩ := hrel
    have HB := hid hB
    by_cases hlt : k < N
    · have ho := owns_below HO4.out hB
      obtain ⟨z0, z1, z2, -, -, -⟩ := own_item ho (show k < A.length by rw [HAL.out]; exact hlt)
      obtain ⟨x0, x1, x2⟩ := HRU.out wr (HB4.out.trans (hB.mono HB4.out.size)) k hlt
      have hki : (k : Int) < (N : Int) := by omega
      have hw1 := w64t k (by have := HN1.out; omega)
      have HK := hid hlt
      clear ho hB hlt
      go_upto_region 8 with (fail)
      go_quiet (fail)
      go_wp2_with fail
      go_roundw
      case rel => exact ⟨k + 1, by go_num, HK.out, (show Below w4.heap.size w4 (wr.drewN nq) from ⟨HB.out.os, HB.out.tape, HB.out.output, HB.out.size, HB.out.block⟩)⟩
      case measure => have := HK.out; simp [intOf]; omega
    · have hki : ¬ (k : Int) < (N : Int) := by omega
      clear hB
      go_wp2_with fail
      go_ret
      exact ⟨rfl, HB4.out.trans (HB.out.mono HB4.out.size)⟩

set_option maxRecDepth 100000 in
set_option maxHeartbeats 8000000 in
theorem same11_zero (w : World) (hp : Option Addr) (a : Option Addr) (c : Nat)
    (h1 : Calls Try.prog 16 #[.pointer hp] w fun e w' => ∃ v', e = .returned v' ∧ w'.ownsRow w.heap.size 32 3 v' 0 [] ∧ Below w.heap.size w w')
    (h2 : ∀ W, Below w.heap.size w W → Calls Try.prog 23 #[.pointer hp] W fun e w' => e = .returned (.tuple #[itv (0, 0, 0), .bool false]) ∧ Below W.heap.size W w')
    (h3 : ∀ W, Below w.heap.size w W → Calls Try.prog 17 #[.pointer hp] W fun e w' => e = .returned (.int .i64 0) ∧ W = w') :
    Calls Try.prog 13 #[.pointer hp, .slice a 0 c] w fun e w' => e = .returned (.bool true) ∧ Below w.heap.size w w' := by
  unfold itv at h2
  have H1 := hid h1
  have H2 := hid h2
  have H3 := hid h3
  clear h1 h2 h3
  go_enter Try.func13, Try.ntmps13
  go_upto_region 1 with (fail)
  go_wp2_with (first
    | (go_at_call 16; (with_reducible refine H1.out.mono ?_); rintro e w1 ⟨vk, rfl, ho1, hb1⟩; obtain ⟨ak, ck, rfl, hck1, hck2⟩ := owns_slice ho1; have HB1 := hid hb1; have HPK1 := hid (H2.out w1 hb1); clear ho1 hb1)
    | (go_at_call 23; (with_reducible refine HPK1.out.mono ?_); rintro e w2 ⟨rfl, hb2⟩; have HB2 := hid hb2; clear hb2)
    | fail)
  obtain ⟨w3, hw3⟩ : ∃ x, x = w2.alloc (.cells #[.int .u32 0, .int .u8 0, .int .u32 0] 32) := ⟨_, rfl⟩
  have hb3 : Below w2.heap.size w2 w3 := by rw [hw3]; exact (Below.refl _ _).alloc (Nat.le_refl _) _
  rw [← hw3]
  have HB3 := hid (HB1.out.trans ((HB2.out.trans (hb3.mono HB2.out.size)).mono HB1.out.size))
  clear hw3 hb3
  go_quiet ((first
    | (go_at_call 17; exact quiet_firstP (H3.out _ ⟨HB3.out.os, HB3.out.tape, HB3.out.output, HB3.out.size, HB3.out.block⟩))))
  obtain ⟨w4, hw4⟩ : ∃ x, x = w3.drewN nq := ⟨_, rfl⟩
  have HB4 := hid (show Below w.heap.size w w4 by rw [hw4]; exact ⟨HB3.out.os, HB3.out.tape, HB3.out.output, HB3.out.size, HB3.out.block⟩)
  rw [← hw4]
  clear hw4
  go_wp2_with fail
  go_loopw [47] (fun i wr => i = .int .i64 0 ∧ Below w4.heap.size w4 wr) (fun i _ => 0)
  case atStart => exact ⟨rfl, Below.refl _ _⟩
  case round =>
    obtain ⟨rfl, hB⟩ := hrel
    have HB := hid hB
    clear hB
    go_wp2_with fail
    go_ret
    exact ⟨rfl, HB4.out.trans (HB.out.mono HB4.out.size)⟩

end Go.Proofs.Ytcgfechodbmimaa
