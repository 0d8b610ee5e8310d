/-
  Slices of stretches: a slice that reads as a list of pairs; one of the call's own; appends; plain words of Overlap.
-/
import Derived.Test.YtajdhnhnknmedaaCap
import Derived.Laws.AppendOwnNone
import Derived.Deep.QuietTactic
import Derived.BigQuiet
import Derived.OpenShut
namespace Go.Proofs.Ytajdhnhnknmedaa.Cap

/-- The latest beginning, the earliest end. -/
def first (l : List (Nat × Nat)) : Nat := l.foldl (fun m s => max m s.1) 0
def last (l : List (Nat × Nat)) : Nat := l.foldl (fun m s => min m s.2) 4294967295
def ov (l : List (Nat × Nat)) : Nat := if l = [] then 0 else if last l < first l then 0 else last l - first l + 1

theorem first_snoc (l : List (Nat × Nat)) (s : Nat × Nat) : first (l ++ [s]) = max (first l) s.1 := by unfold first; rw [List.foldl_append]; rfl
theorem last_snoc (l : List (Nat × Nat)) (s : Nat × Nat) : last (l ++ [s]) = min (last l) s.2 := by unfold last; rw [List.foldl_append]; rfl

theorem take_snoc (l : List (Nat × Nat)) (k : Nat) (h : k < l.length) : l.take (k + 1) = l.take k ++ [l.getD k (0, 0)] := by
  rw [List.take_succ_eq_append_getElem h]
  simp [List.getElem?_eq_getElem h]

/-- All fit 32 bits. -/
def fits (l : List (Nat × Nat)) : Prop := ∀ j, j < l.length → (l.getD j (0, 0)).1 < 4294967296 ∧ (l.getD j (0, 0)).2 < 4294967296

theorem last_top (l : List (Nat × Nat)) : last l < 4294967296 := by
  unfold last
  have : ∀ (l : List (Nat × Nat)) (m : Nat), l.foldl (fun m s => min m s.2) m ≤ m := by
    intro l
    induction l with
    | nil => intro m; exact Nat.le_refl _
    | cons a r ih => intro m; simp only [List.foldl_cons]; exact Nat.le_trans (ih _) (Nat.min_le_left _ _)
  have := this l 4294967295
  omega

theorem first_take (l : List (Nat × Nat)) (hf : fits l) : ∀ k, k ≤ l.length → first (l.take k) < 4294967296 := by
  intro k
  induction k with
  | zero => intro _; simp [first]
  | succ k ih =>
    intro h
    rw [take_snoc l k (by omega), first_snoc]
    have := ih (by omega)
    have := hf k (by omega)
    omega

/-- Step by step. -/
theorem first_take_succ (l : List (Nat × Nat)) (k : Nat) (h : k < l.length) : first (l.take (k + 1)) = max (first (l.take k)) (l.getD k (0, 0)).1 := by rw [take_snoc l k h, first_snoc]
theorem last_take_succ (l : List (Nat × Nat)) (k : Nat) (h : k < l.length) : last (l.take (k + 1)) = min (last (l.take k)) (l.getD k (0, 0)).2 := by rw [take_snoc l k h, last_snoc]

theorem first_one (l : List (Nat × Nat)) (h : 0 < l.length) : first (l.take 1) = (l.getD 0 (0, 0)).1 := by
  rw [first_take_succ l 0 h, List.take_zero]; simp [first]
theorem last_one (l : List (Nat × Nat)) (hf : fits l) (h : 0 < l.length) : last (l.take 1) = (l.getD 0 (0, 0)).2 := by
  have := (hf 0 h).2
  rw [last_take_succ l 0 h, List.take_zero]
  show min 4294967295 _ = _
  omega

theorem ov_snoc (l : List (Nat × Nat)) (s : Nat × Nat) (h : l ≠ []) : ov (l ++ [s]) ≤ ov l := by
  unfold ov
  rw [if_neg (by simp), if_neg h, first_snoc, last_snoc]
  split
  · omega
  · split
    · omega
    · omega

theorem fits_snoc (l : List (Nat × Nat)) (s : Nat × Nat) (h : fits l) (h1 : s.1 < 4294967296) (h2 : s.2 < 4294967296) : fits (l ++ [s]) := by
  intro j hj
  rw [List.length_append] at hj
  simp only [List.length_singleton] at hj
  by_cases e : j < l.length
  · have := h j e
    simp only [List.getD_eq_getElem?_getD] at this ⊢
    rw [List.getElem?_append_left e]
    exact this
  · obtain rfl : j = l.length := by omega
    simp [h1, h2]

end Go.Proofs.Ytajdhnhnknmedaa.Cap
namespace Go.Proofs.Ytajdhnhnknmedaa
open Go.RowKit

/-- A stretch's two cells. -/
def pv (s : Nat × Nat) : List Value := [.int .u32 (s.1 : Int), .int .u32 (s.2 : Int)]

/-- The slice value v reads as the stretches l. -/
def Rd2 (w : World) (v : Value) (l : List (Nat × Nat)) : Prop :=
  ∃ a cap, v = .slice a l.length cap ∧ l.length ≤ cap ∧ cap ≤ maxLen ∧ (a = none → cap = 0) ∧ ∀ x, a = some x → ∀ j, j < l.length →
    w.cell? (x.add (j * 2)) = some (.int .u32 ((l.getD j (0, 0)).1 : Int)) ∧ w.cell? (x.add (j * 2 + 1)) = some (.int .u32 ((l.getD j (0, 0)).2 : Int))

theorem Rd2.pos {w : World} {v : Value} {l : List (Nat × Nat)} (h : Rd2 w v l) (hl : 0 < l.length) :
    ∃ b off cap, v = .slice (some ⟨b, off, none⟩) l.length cap ∧ l.length ≤ cap ∧ cap ≤ maxLen ∧ b < w.heap.size ∧ ∀ j, j < l.length →
      w.cell? ⟨b, off + j * 2, none⟩ = some (.int .u32 ((l.getD j (0, 0)).1 : Int)) ∧ w.cell? ⟨b, off + (j * 2 + 1), none⟩ = some (.int .u32 ((l.getD j (0, 0)).2 : Int)) := by
  obtain ⟨a, cap, rfl, h1, h2, h3, h4⟩ := h
  cases a with
  | none => have := h3 rfl; omega
  | some x =>
    obtain ⟨b, off, spot⟩ := x
    have h0 := (h4 _ rfl 0 hl).1
    have hs : spot = none := by simpa [Addr.add] using World.cell?_spot h0
    subst hs
    refine ⟨b, off, cap, rfl, h1, h2, ?_, fun j hj => ?_⟩
    · have := World.block_lt_of_cell? _ _ h0
      simpa [Addr.add] using this
    · have := h4 _ rfl j hj
      rw [Addr.add_lit, Addr.add_lit] at this
      exact this

theorem Rd2.to {w w' : World} {v : Value} {l : List (Nat × Nat)} (h : Rd2 w v l) (hc : ∀ a : Addr, a.block < w.heap.size → w'.cell? a = w.cell? a) : Rd2 w' v l := by
  obtain ⟨a, cap, rfl, h1, h2, h3, h4⟩ := h
  refine ⟨a, cap, rfl, h1, h2, h3, fun x hx j hj => ?_⟩
  have := h4 x hx j hj
  rw [hc _ (World.block_lt_of_cell? _ _ this.1), hc _ (World.block_lt_of_cell? _ _ this.2)]
  exact this

theorem Rd2.below {w w' : World} {v : Value} {l : List (Nat × Nat)} (h : Rd2 w v l) (hb : Below w.heap.size w w') : Rd2 w' v l := h.to fun _ ha => hb.cell ha
theorem Rd2.drewN {w : World} {v : Value} {l : List (Nat × Nat)} (h : Rd2 w v l) (n : Nat) : Rd2 (w.drewN n) v l := h

theorem below_behind {B : Nat} {w w' : World} (h : Below B w w') (n : Nat) : Below B w (w'.drewN n) := ⟨h.os, h.tape, h.output, h.size, h.block⟩

set_option maxHeartbeats 1000000 in
theorem overlap_any (v : Value) (l : List (Nat × Nat)) (w : World) (h : Rd2 w v l) (hf : Cap.fits l) :
    Calls Try.prog 6 #[v] w fun e w' => e = .returned (.int .i64 (Cap.ov l : Int)) ∧ Below w.heap.size w w' := by
  by_cases h0 : 0 < l.length
  · obtain ⟨b, off, cap, rfl, hcap, hm, hb, hc⟩ := h.pos h0
    unfold maxLen at hm
    have hq : ((l.length : Int) == 0) = false := by rw [beq_eq_false_iff_ne]; omega
    obtain ⟨hc0, hc1⟩ := hc 0 h0
    have h10 := hid (Cap.first_one l h0)
    have h11 := hid (Cap.last_one l hf h0)
    obtain ⟨N, hN⟩ : ∃ N, N = l.length := ⟨_, rfl⟩
    have HN := hid hN
    rw [← hN] at hcap hq h0 ⊢
    have HC := hid hc
    clear hc h hN
    simp only [Nat.zero_mul, Nat.add_zero, Nat.zero_add] at hc0 hc1
    /-GEN-/
    by_cases hcap1 : cap = 1
    · obtain rfl : N = 1 := by omega
      subst hcap1
      go_enter Try.func6, Try.ntmps6
      go_wp2
      go_quiet (fail)
      go_wp2
      have h10' := h10.out
      have h11' := h11.out
      simp only [List.getD_eq_getElem?_getD] at h10' h11'
      rw [← h10', ← h11']
      clear h10' h11'
      go_loopw [3, 4, 21] (fun f t i wr => ∃ k : Nat, k < 1 ∧ i = .int .i64 k ∧ f = .int .u32 (Cap.first (l.take (k + 1)) : Int) ∧ t = .int .u32 (Cap.last (l.take (k + 1)) : Int) ∧ Below w.heap.size w wr) (fun _ _ i _ => 1 - (intOf i).toNat)
      case atStart => exact ⟨0, by omega, rfl, rfl, rfl, below_behind (Below.refl _ _) _⟩
      case round =>
        obtain ⟨k, hk, rfl, rfl, rfl, hbw⟩ := hrel
        · obtain rfl : k = 0 := by omega
          have hall : l.take (1) = l := List.take_of_length_le (by have := HN.out; omega)
          rw [hall]
          have HOV := hid (show Cap.ov l = if Cap.last l < Cap.first l then 0 else Cap.last l - Cap.first l + 1 by
            unfold Cap.ov
            rw [if_neg (by rintro rfl; have := HN.out; simp at this)])
          have hb1 := Cap.last_top l
          have hb2 := Cap.first_take l hf l.length (Nat.le_refl _)
          rw [List.take_length] at hb2
          obtain ⟨F, hF⟩ : ∃ F, F = Cap.first l := ⟨_, rfl⟩
          obtain ⟨L, hL⟩ : ∃ L, L = Cap.last l := ⟨_, rfl⟩
          rw [← hF] at hb2 ⊢
          rw [← hL] at hb1 ⊢
          have HF := hid hF
          have HL := hid hL
          clear hF hL hall h0 hcap hq
          by_cases c : L < F
          · have HO := hid (show Cap.ov l = 0 by rw [HOV.out, ← HL.out, ← HF.out, if_pos c])
            go_wp2
            go_ret
            rw [HO.out]
            exact ⟨rfl, hbw⟩
          · have HO := hid (show Cap.ov l = L - F + 1 by rw [HOV.out, ← HL.out, ← HF.out, if_neg c])
            have hd : 0 ≤ (L : Int) - F := by omega
            go_wp2
            go_ret
            rw [HO.out]
            exact ⟨ret_int (by omega), hbw⟩
    · go_enter Try.func6, Try.ntmps6
      go_wp2
      go_quiet (fail)
      go_wp2
      have h10' := h10.out
      have h11' := h11.out
      simp only [List.getD_eq_getElem?_getD] at h10' h11'
      rw [← h10', ← h11']
      clear h10' h11'
      go_loopw [3, 4, 21] (fun f t i wr => ∃ k : Nat, k < N ∧ i = .int .i64 k ∧ f = .int .u32 (Cap.first (l.take (k + 1)) : Int) ∧ t = .int .u32 (Cap.last (l.take (k + 1)) : Int) ∧ Below w.heap.size w wr) (fun _ _ i _ => N - (intOf i).toNat)
      case atStart => exact ⟨0, by omega, rfl, rfl, rfl, below_behind (Below.refl _ _) _⟩
      case round =>
        obtain ⟨k, hk, rfl, rfl, rfl, hbw⟩ := hrel
        by_cases hlt : k + 1 < N
        · obtain ⟨g0, g1⟩ := HC.out (k + 1) (by have := HN.out; omega)
          have HF := hid (Cap.first_take_succ l (k + 1) (by have := HN.out; omega))
          have HL := hid (Cap.last_take_succ l (k + 1) (by have := HN.out; omega))
          rw [← hbw.cell (p := ⟨b, off + (k + 1) * 2, none⟩) hb] at g0
          rw [← hbw.cell (p := ⟨b, off + ((k + 1) * 2 + 1), none⟩) hb] at g1
          rw [show off + (k + 1) * 2 = off + 2 + k * 2 by omega] at g0
          rw [show off + ((k + 1) * 2 + 1) = off + 2 + k * 2 + 1 by omega] at g1
          obtain ⟨s, hs⟩ : ∃ s, s = l.getD (k + 1) (0, 0) := ⟨_, rfl⟩
          rw [← hs] at g0 g1 HF HL
          obtain ⟨F, hF⟩ : ∃ F, F = Cap.first (l.take (k + 1)) := ⟨_, rfl⟩
          obtain ⟨L, hL⟩ : ∃ L, L = Cap.last (l.take (k + 1)) := ⟨_, rfl⟩
          rw [← hF] at HF ⊢
          rw [← hL] at HL ⊢
          clear hs hF hL
          obtain ⟨s1, s2⟩ := s
          simp only at g0 g1 HF HL
          have hal : ∀ (o : Obj) (n : Nat), Below w.heap.size w ((wr.alloc o).drewN n) := fun o n => below_behind (hbw.alloc hbw.size o) n
          by_cases c1 : F < s1 <;> by_cases c2 : s2 < L
          all_goals
            go_wp2
            go_quiet (fail)
            go_wp2
            go_roundw
            case rel => exact ⟨k + 1, hlt, by go_num, by rw [HF.out]; exact congrArg (Value.int .u32) (by omega), by rw [HL.out]; exact congrArg (Value.int .u32) (by omega), hal _ _⟩
            case measure => simp [intOf]; omega
        · obtain rfl : N = k + 1 := by omega
          have hall : l.take (k + 1) = l := List.take_of_length_le (by have := HN.out; omega)
          rw [hall]
          have HOV := hid (show Cap.ov l = if Cap.last l < Cap.first l then 0 else Cap.last l - Cap.first l + 1 by
            unfold Cap.ov
            rw [if_neg (by rintro rfl; have := HN.out; simp at this)])
          have hb1 := Cap.last_top l
          have hb2 := Cap.first_take l hf l.length (Nat.le_refl _)
          rw [List.take_length] at hb2
          obtain ⟨F, hF⟩ : ∃ F, F = Cap.first l := ⟨_, rfl⟩
          obtain ⟨L, hL⟩ : ∃ L, L = Cap.last l := ⟨_, rfl⟩
          rw [← hF] at hb2 ⊢
          rw [← hL] at hb1 ⊢
          have HF := hid hF
          have HL := hid hL
          clear hF hL hall h0 hcap hq
          by_cases c : L < F
          · have HO := hid (show Cap.ov l = 0 by rw [HOV.out, ← HL.out, ← HF.out, if_pos c])
            go_wp2
            go_ret
            rw [HO.out]
            exact ⟨rfl, hbw⟩
          · have HO := hid (show Cap.ov l = L - F + 1 by rw [HOV.out, ← HL.out, ← HF.out, if_neg c])
            have hd : 0 ≤ (L : Int) - F := by omega
            go_wp2
            go_ret
            rw [HO.out]
            exact ⟨ret_int (by omega), hbw⟩
  · have h1 : l = [] := List.eq_nil_of_length_eq_zero (by omega)
    subst h1
    obtain ⟨a, cap, rfl, _⟩ := h
    go_enter Try.func6, Try.ntmps6
    go_wp2
    go_ret
    exact ⟨rfl, Below.refl _ _⟩

end Go.Proofs.Ytajdhnhnknmedaa
