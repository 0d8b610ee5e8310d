/-
  The document's names and Form of notes: contracts.
-/
import Derived.Test.YtafpgglebjllbaaNoteNp
import Derived.Test.YtafpgglebjllbaaNoteX
import Derived.Test.YtafpgglebjllbaaNoteR
import Derived.Test.YtafpgglebjllbaaSame
namespace Go.Proofs.Ytafpgglebjllbaa
open Go.RowKit

/-- A block of whole numbers. -/
def iv (l : List Nat) : Array Value := (l.map fun (n : Nat) => Value.int .i64 (n : Int)).toArray
def uv (l : List Nat) : Array Value := (l.map fun (n : Nat) => Value.int .u64 (n : Int)).toArray

set_option maxRecDepth 100000 in
set_option maxHeartbeats 4000000 in
theorem names_any (k : Nat) (w : World) (h : 1 ≤ k ∧ k ≤ 12) :
    Calls Try.prog 64 #[.int .u8 (k : Int)] w fun e w' => e = .returned (.slice (some ⟨w.heap.size, 0, none⟩) (Note.nm k).length (Note.nm k).length) ∧ w' = w.alloc (.cells (iv (Note.nm k)) 3) := by
  rcases Note.kinds h with rfl | rfl | rfl | rfl | rfl | rfl | rfl | rfl | rfl | rfl | rfl | rfl
  all_goals
    go_enter Try.func64, Try.ntmps64
    go_wp2
    go_ret
    exact ⟨rfl, rfl⟩

theorem uv_get (l : List Nat) (j : Nat) (h : j < l.length) : (uv l)[j]? = some (.int .u64 ((l.getD j 0 : Nat) : Int)) := by
  unfold uv
  simp [List.getD_eq_getElem?_getD, h]

theorem iv_get (l : List Nat) (j : Nat) (h : j < l.length) : (iv l)[j]? = some (.int .i64 ((l.getD j 0 : Nat) : Int)) := by
  unfold iv
  simp [List.getD_eq_getElem?_getD, h]

theorem uv_set (l : List Nat) (j : Nat) : (uv l).setIfInBounds j (.int .u64 0) = uv (l.set j 0) := by
  unfold uv
  rw [List.map_set, List.setIfInBounds_toArray]
  rfl

theorem all_zero (l : List Nat) (n : Nat) (hl : l.length = n) (h : ∀ t, t < n → l.getD t 0 = 0) : l.all (fun y => decide (y = 0)) = true := by
  rw [List.all_eq_true]
  intro y hy
  obtain ⟨t, ht, rfl⟩ := List.getElem_of_mem hy
  have := h t (by omega)
  simpa [List.getD_eq_getElem?_getD, ht] using this

theorem not_all_zero (l : List Nat) (t : Nat) (h : l.getD t 0 ≠ 0) : l.all (fun y => decide (y = 0)) = false := by
  rw [← Bool.not_eq_true, List.all_eq_true]
  intro ha
  by_cases ht : t < l.length
  · have := ha l[t] (List.getElem_mem ht)
    exact h (by simpa [List.getD_eq_getElem?_getD, ht] using this)
  · exact h (by simp [List.getD_eq_getElem?_getD, ht])

theorem Note.N.right_clear (x : Note.N) (L : Nat) (hL : L = x.b.length) (h1 : 1 ≤ x.k) (h2 : x.k ≤ 12) (h3 : x.n ≤ 15) (h4 : x.r ≤ 15) (h5 : 0 ≤ x.c) (h6 : x.c ≤ 10000) (h7 : L ≤ 1024) :
    x.right = (Note.wipe (x.hs L) (Note.nm x.k)).all (fun y => decide (y = 0)) := by
  subst hL
  rw [← Note.N.clear_wipe x ⟨h1, h2⟩]
  unfold Note.N.right
  have a1 : decide (1 ≤ x.k ∧ x.k ≤ 12) = true := by simp; omega
  have a2 : decide (x.n < 16) = true := by simp; omega
  have a3 : decide (x.r < 16) = true := by simp; omega
  have a4 : decide (0 ≤ x.c ∧ x.c ≤ 10000) = true := by simp; omega
  have a5 : decide (x.b.length ≤ 1024) = true := by simp; omega
  rw [a1, a2, a3, a4, a5]
  simp

theorem ret_bool {a b : Bool} (h : a = b) : Ending.returned (.bool a) = .returned (.bool b) := by rw [h]

set_option maxRecDepth 100000 in
set_option maxHeartbeats 4000000 in
theorem form_bad (x : Note.N) (ad : Option Addr) (cp L : Nat) (hL : L = x.b.length) (w : World) (hn : ¬ (1 ≤ x.k ∧ x.k ≤ 12 ∧ x.n ≤ 15 ∧ x.r ≤ 15 ∧ 0 ≤ x.c ∧ x.c ≤ 10000 ∧ L ≤ 1024)) :
    Calls Try.prog 34 #[.agg #[.int .u8 (x.k : Int), .int .u8 (x.n : Int), .int .u32 (x.e : Int), .int .u32 (x.l : Int), .int .u32 (x.t : Int), .int .u32 (x.g : Int), .int .u32 (x.j : Int), .int .u32 (x.v : Int), .int .u8 (x.r : Int), .int .i64 x.c, .int .u32 (x.f : Int), .int .u32 (x.o : Int), .slice ad L cp]] w fun e w' => e = .returned (.bool x.right) ∧ Below w.heap.size w w' := by
  have HR := hid (show x.right = false by
    rw [← Bool.not_eq_true]
    intro h
    obtain ⟨a, _, b, c, d, e⟩ := Note.N.right_of x h
    exact hn ⟨a.1, a.2, by omega, by omega, d.1, d.2, by omega⟩)
  have HN := hid hn
  clear hn hL
  by_cases c0 : 1 ≤ x.k
  · have d0 : ¬ (x.k : Int) < 1 := by omega
    by_cases c1 : x.k ≤ 12
    · have d1 : ¬ 12 < (x.k : Int) := by omega
      by_cases c2 : x.n ≤ 15
      · have d2 : ¬ 15 < (x.n : Int) := by omega
        by_cases c3 : x.r ≤ 15
        · have d3 : ¬ 15 < (x.r : Int) := by omega
          by_cases c4 : 0 ≤ x.c
          · have d4 : ¬ x.c < 0 := by omega
            by_cases c5 : x.c ≤ 10000
            · have d5 : ¬ 10000 < x.c := by omega
              by_cases c6 : L ≤ 1024
              · have d6 : ¬ 1024 < (L : Int) := by omega
                exact absurd ⟨c0, c1, c2, c3, c4, c5, c6⟩ HN.out
              · have d6 : 1024 < (L : Int) := by omega
                go_enter Try.func34, Try.ntmps34
                go_wp2
                go_ret
                exact ⟨ret_bool HR.out.symm, (Below.refl _ _).alloc (Nat.le_refl _) _⟩
            · have d5 : 10000 < x.c := by omega
              go_enter Try.func34, Try.ntmps34
              go_wp2
              go_ret
              exact ⟨ret_bool HR.out.symm, (Below.refl _ _).alloc (Nat.le_refl _) _⟩
          · have d4 : x.c < 0 := by omega
            go_enter Try.func34, Try.ntmps34
            go_wp2
            go_ret
            exact ⟨ret_bool HR.out.symm, (Below.refl _ _).alloc (Nat.le_refl _) _⟩
        · have d3 : 15 < (x.r : Int) := by omega
          go_enter Try.func34, Try.ntmps34
          go_wp2
          go_ret
          exact ⟨ret_bool HR.out.symm, (Below.refl _ _).alloc (Nat.le_refl _) _⟩
      · have d2 : 15 < (x.n : Int) := by omega
        go_enter Try.func34, Try.ntmps34
        go_wp2
        go_ret
        exact ⟨ret_bool HR.out.symm, (Below.refl _ _).alloc (Nat.le_refl _) _⟩
    · have d1 : 12 < (x.k : Int) := by omega
      go_enter Try.func34, Try.ntmps34
      go_wp2
      go_ret
      exact ⟨ret_bool HR.out.symm, (Below.refl _ _).alloc (Nat.le_refl _) _⟩
  · have d0 : (x.k : Int) < 1 := by omega
    go_enter Try.func34, Try.ntmps34
    go_wp2
    go_ret
    exact ⟨ret_bool HR.out.symm, (Below.refl _ _).alloc (Nat.le_refl _) _⟩

set_option maxRecDepth 100000 in
set_option maxHeartbeats 4000000 in
theorem form_good (x : Note.N) (ad : Option Addr) (cp L : Nat) (hL : L = x.b.length) (w : World) (hx : x.wf) (h1 : 1 ≤ x.k) (h2 : x.k ≤ 12) (h3 : x.n ≤ 15) (h4 : x.r ≤ 15) (h5 : 0 ≤ x.c) (h6 : x.c ≤ 10000) (h7 : L ≤ 1024) :
    Calls Try.prog 34 #[.agg #[.int .u8 (x.k : Int), .int .u8 (x.n : Int), .int .u32 (x.e : Int), .int .u32 (x.l : Int), .int .u32 (x.t : Int), .int .u32 (x.g : Int), .int .u32 (x.j : Int), .int .u32 (x.v : Int), .int .u8 (x.r : Int), .int .i64 x.c, .int .u32 (x.f : Int), .int .u32 (x.o : Int), .slice ad L cp]] w fun e w' => e = .returned (.bool x.right) ∧ Below w.heap.size w w' := by
  have HR := hid (Note.N.right_clear x L hL h1 h2 h3 h4 h5 h6 h7)
  obtain ⟨z1, z2, z3, z4, z5, z6, z7, z8, z9, z10, z11, z12, z13⟩ := hx
  have hks := Note.nm_lt ⟨h1, h2⟩
  have hkl := Note.nm_len ⟨h1, h2⟩
  have HKS := hid hks
  have e1 : ¬ (x.k : Int) < 1 := by omega
  have e2 : ¬ 12 < (x.k : Int) := by omega
  have e3 : ¬ 15 < (x.n : Int) := by omega
  have e4 : ¬ 15 < (x.r : Int) := by omega
  have e5 : ¬ x.c < 0 := by omega
  have e6 : ¬ 10000 < x.c := by omega
  have e7 : ¬ 1024 < (L : Int) := by omega
  have HHS := hid (show (uv (x.hs L)) = #[.int .u64 0, .int .u64 (x.n : Int), .int .u64 (x.e : Int), .int .u64 (x.l : Int), .int .u64 (x.t : Int), .int .u64 (x.g : Int), .int .u64 (x.j : Int), .int .u64 (x.v : Int), .int .u64 (x.r : Int), .int .u64 x.c, .int .u64 (x.f : Int), .int .u64 (x.o : Int), .int .u64 (L : Int)] by
    have e : ((Note.u64 x.c : Nat) : Int) = x.c := by unfold Note.u64; omega
    rw [← e]
    rfl)
  have HWL := hid (show (Note.wipe (x.hs L) (Note.nm x.k)).length = 13 from (Note.wipe_length _ _).trans rfl)
  clear hks hL
  go_enter Try.func34, Try.ntmps34
  go_wp2_with fail
  refine (names_any x.k _ ⟨h1, h2⟩).mono ?_
  rintro e wn ⟨rfl, hwn⟩
  have HG := hid (show wn.heap[w.heap.size + 1 + 1]? = some (.cells (iv (Note.nm x.k)) 3 (0, 0)) by rw [hwn]; have := heap_alloc_new ((w.alloc (.cells #[.int .u8 (x.k : Int), .int .u8 (x.n : Int), .int .u32 (x.e : Int), .int .u32 (x.l : Int), .int .u32 (x.t : Int), .int .u32 (x.g : Int), .int .u32 (x.j : Int), .int .u32 (x.v : Int), .int .u8 (x.r : Int), .int .i64 x.c, .int .u32 (x.f : Int), .int .u32 (x.o : Int), .slice ad L cp] 25)).alloc (.cells #[.int .u64 0, .int .u64 (x.n : Int), .int .u64 (x.e : Int), .int .u64 (x.l : Int), .int .u64 (x.t : Int), .int .u64 (x.g : Int), .int .u64 (x.j : Int), .int .u64 (x.v : Int), .int .u64 (x.r : Int), .int .u64 x.c, .int .u64 (x.f : Int), .int .u64 (x.o : Int), .int .u64 (L : Int)] 71)) (.cells (iv (Note.nm x.k)) 3); simpa using this)
  have HH := hid (show wn.heap[w.heap.size + 1]? = some (.cells (uv (Note.wipe (x.hs L) ((Note.nm x.k).take 0))) 71 (0, 0)) by
    rw [hwn, show uv (Note.wipe (x.hs L) ((Note.nm x.k).take 0)) = _ from HHS.out]
    exact (Below.heap_alloc _ _ _ (by simp)).trans (by have := heap_alloc_new (w.alloc (.cells #[.int .u8 (x.k : Int), .int .u8 (x.n : Int), .int .u32 (x.e : Int), .int .u32 (x.l : Int), .int .u32 (x.t : Int), .int .u32 (x.g : Int), .int .u32 (x.j : Int), .int .u32 (x.v : Int), .int .u8 (x.r : Int), .int .i64 x.c, .int .u32 (x.f : Int), .int .u32 (x.o : Int), .slice ad L cp] 25)) (.cells #[.int .u64 0, .int .u64 (x.n : Int), .int .u64 (x.e : Int), .int .u64 (x.l : Int), .int .u64 (x.t : Int), .int .u64 (x.g : Int), .int .u64 (x.j : Int), .int .u64 (x.v : Int), .int .u64 (x.r : Int), .int .u64 x.c, .int .u64 (x.f : Int), .int .u64 (x.o : Int), .int .u64 (L : Int)] 71); simpa using this))
  have HB := hid (show Below w.heap.size w wn by rw [hwn]; exact (((Below.refl _ _).alloc (Nat.le_refl _) _).alloc (by simp) _).alloc (by simp; omega) _)
  have hsz : wn.heap.size = w.heap.size + 3 := by rw [hwn]; simp
  obtain ⟨ks, hks⟩ : ∃ ks, ks = Note.nm x.k := ⟨_, rfl⟩
  obtain ⟨hs, hhs⟩ : ∃ hs, hs = x.hs L := ⟨_, rfl⟩
  rw [← hks] at HG HH HKS hkl HR HWL
  rw [← hhs] at HH HR HWL
  have HHL := hid (show hs.length = 13 by rw [hhs]; rfl)
  obtain ⟨m, hm⟩ : ∃ m, m = ks.length := ⟨_, rfl⟩
  rw [← hks, ← hm]
  rw [← hm] at hkl
  have HM := hid hm
  clear hwn hks hhs hm z1 z2 z3 z4 z5 z6 z7 z8 z9 z10 z11 z12 z13 HHS
  go_wp2_with fail
  go_loopw [84] (fun i wr => ∃ j : Nat, j ≤ m ∧ i = .int .i64 j ∧ wr.heap[w.heap.size + 1]? = some (.cells (uv (Note.wipe hs (ks.take j))) 71 (0, 0)) ∧ wr.heap[w.heap.size + 1 + 1]? = some (.cells (iv ks) 3 (0, 0)) ∧ Below w.heap.size w wr) (fun i _ => m - (intOf i).toNat)
  case atStart => exact ⟨0, Nat.zero_le _, rfl, HH.out, HG.out, HB.out⟩
  case round =>
    obtain ⟨j, hj, rfl, hh, hg, hbw⟩ := hrel
    have HG2 := hid hg
    have HH2 := hid hh
    have HB2 := hid hbw
    clear hh hg hbw
    by_cases hlt : j < m
    · obtain ⟨q, hq⟩ : ∃ q, q = ks.getD j 0 := ⟨_, rfl⟩
      have hq13 : q < 13 := HKS.out q (by rw [hq, List.getD_eq_getElem?_getD, List.getElem?_eq_getElem (by have := HM.out; omega)]; exact List.getElem_mem _)
      have hc0 : wr.cell? ⟨w.heap.size + 1 + 1, j, none⟩ = some (.int .i64 (q : Int)) := by rw [cell_of_row _ _ _ _ _ _ HG2.out, iv_get _ _ (by have := HM.out; omega), ← hq]
      have hc1 : wr.cell? ⟨w.heap.size + 1, q, none⟩ = some (.int .u64 (((Note.wipe hs (ks.take j)).getD q 0 : Nat) : Int)) := by rw [cell_of_row _ _ _ _ _ _ HH2.out, uv_get _ _ (by rw [Note.wipe_length, HHL.out]; exact hq13)]
      have hf1 : wr.frozen? ⟨w.heap.size + 1, q, none⟩ = false := frozen_of_row _ _ _ _ _ HH2.out
      have HT := hid (show Note.wipe hs (ks.take (j + 1)) = (Note.wipe hs (ks.take j)).set q 0 by
        rw [List.take_succ_eq_append_getElem (by have := HM.out; omega), Note.wipe_snoc, hq, List.getD_eq_getElem?_getD, List.getElem?_eq_getElem (by have := HM.out; omega)]
        rfl)
      clear hq
      go_wp2
      go_roundw
      case rel => exact ⟨j + 1, hlt, by go_num, by rw [HT.out, ← uv_set]; exact heap_setCell_same _ _ _ _ _ _ HH2.out, (heap_setCell_other _ _ _ _ (by simp)).trans HG2.out, HB2.out.setCell (by simp) _⟩
      case measure => simp [intOf]; omega
    · obtain rfl : m = j := by omega
      have hall : ks.take m = ks := List.take_of_length_le (by have := HM.out; omega)
      rw [hall] at HH2
      obtain ⟨l, hl⟩ : ∃ l, l = Note.wipe hs ks := ⟨_, rfl⟩
      rw [← hl] at HH2 HR HWL
      clear hall hl
      go_wp2_with fail
      go_loop [94] (fun i => ∃ t : Nat, t ≤ 13 ∧ i = .int .i64 t ∧ Hid (∀ s, s < t → l.getD s 0 = 0)) (fun i => 13 - (intOf i).toNat)
      case atStart => exact ⟨0, Nat.zero_le _, rfl, hid (fun s h => by omega)⟩
      case round =>
        obtain ⟨t, ht, rfl, HZ⟩ := hrel
        by_cases hlt2 : t < 13
        · obtain ⟨v, hv⟩ : ∃ v, v = l.getD t 0 := ⟨_, rfl⟩
          have hc : wr.cell? ⟨w.heap.size + 1, t, none⟩ = some (.int .u64 (v : Int)) := by rw [cell_of_row _ _ _ _ _ _ HH2.out, uv_get _ _ (by rw [HWL.out]; exact hlt2), ← hv]
          have HV := hid hv
          clear hv
          by_cases hv0 : v = 0
          · have hb : ((v : Int) != 0) = false := by simp [hv0]
            have hb2 : ((v : Int) == 0) = true := by simp [hv0]
            have HV0 := hid hv0
            clear hv0
            go_wp2
            go_round
            case rel => exact ⟨t + 1, hlt2, by go_num, hid (fun s h => by
              by_cases e : s < t
              · exact HZ.out s e
              · obtain rfl : s = t := by omega
                rw [← HV.out]; exact HV0.out)⟩
            case measure => simp [intOf]; omega
          · have hb : ((v : Int) != 0) = true := by rw [bne_iff_ne]; omega
            have hb2 : ((v : Int) == 0) = false := by rw [beq_eq_false_iff_ne]; omega
            have HV0 := hid hv0
            clear hv0
            go_wp2
            go_ret
            exact ⟨ret_bool (HR.out.trans (not_all_zero l t (by rw [← HV.out]; exact HV0.out))).symm, HB2.out⟩
        · obtain rfl : t = 13 := by omega
          go_wp2
          go_ret
          exact ⟨ret_bool (HR.out.trans (all_zero l 13 HWL.out HZ.out)).symm, HB2.out⟩

end Go.Proofs.Ytafpgglebjllbaa
