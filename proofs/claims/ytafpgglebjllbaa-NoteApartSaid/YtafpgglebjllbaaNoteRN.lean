/-
  Which notes are right: contracts.
-/
import Derived.Test.YtafpgglebjllbaaNoteR
import Derived.Test.YtafpgglebjllbaaNoteW
import Derived.Laws.Rows
namespace Go.Proofs.Ytafpgglebjllbaa.Note

/-- The bits, up to the k-th. -/
theorem bits_take (l : List Nat) : ∀ (i k : Nat), k < l.length → bits (l.take (k + 1)) i = bits (l.take k) i + (if l.getD k 0 ≠ 0 then 2 ^ (i + k) else 0) := by
  induction l with
  | nil => intro i k hk; cases hk
  | cons x r ih =>
    intro i k hk
    cases k with
    | zero => simp [bits]
    | succ k =>
      have := ih (i + 1) k (by simpa using hk)
      simp only [List.take_succ_cons, bits, this, List.getD_cons_succ]
      rw [show i + 1 + k = i + (k + 1) by omega]
      omega

theorem bits_le (l : List Nat) : ∀ i, bits l i + 2 ^ i ≤ 2 ^ (i + l.length) := by
  induction l with
  | nil => intro i; simp [bits]
  | cons x r ih =>
    intro i
    have h1 := ih (i + 1)
    rw [show i + 1 + r.length = i + (r.length + 1) by omega, Nat.pow_succ 2 i] at h1
    simp only [bits, List.length_cons]
    split <;> omega

theorem bits_lt (l : List Nat) (i : Nat) : bits l i < 2 ^ (i + l.length) := by
  have := bits_le l i
  have : 0 < 2 ^ i := Nat.pow_pos (by omega)
  omega

end Go.Proofs.Ytafpgglebjllbaa.Note
namespace Go.Proofs.Ytafpgglebjllbaa
open Go.RowKit

set_option maxHeartbeats 1000000 in
theorem named_yes (k : Nat) (w : World) (h : 1 ≤ k ∧ k ≤ 12) : Calls Try.prog 58 #[.int .u8 (k : Int)] w fun e w' => e = .returned (.tuple #[.int .i64 (Note.may k : Int), .bool true]) ∧ w = w' := by
  have hk : k = 1 ∨ k = 2 ∨ k = 3 ∨ k = 4 ∨ k = 5 ∨ k = 6 ∨ k = 7 ∨ k = 8 ∨ k = 9 ∨ k = 10 ∨ k = 11 ∨ k = 12 := by omega
  clear h
  rcases hk with rfl | rfl | rfl | rfl | rfl | rfl | rfl | rfl | rfl | rfl | rfl | rfl
  all_goals
    go_enter Try.func58, Try.ntmps58
    go_wp2
    go_ret2
    exact ⟨rfl, rfl⟩

set_option maxHeartbeats 1000000 in
theorem named_no (k : Nat) (w : World) (h : ¬ (1 ≤ k ∧ k ≤ 12)) : Calls Try.prog 58 #[.int .u8 (k : Int)] w fun e w' => e = .returned (.tuple #[.int .i64 0, .bool false]) ∧ w = w' := by
  have h1 : ((k : Int) == 1) = false := by rw [beq_eq_false_iff_ne]; omega
  have h2 : ((k : Int) == 2) = false := by rw [beq_eq_false_iff_ne]; omega
  have h3 : ((k : Int) == 3) = false := by rw [beq_eq_false_iff_ne]; omega
  have h4 : ((k : Int) == 4) = false := by rw [beq_eq_false_iff_ne]; omega
  have h5 : ((k : Int) == 5) = false := by rw [beq_eq_false_iff_ne]; omega
  have h6 : ((k : Int) == 6) = false := by rw [beq_eq_false_iff_ne]; omega
  have h7 : ((k : Int) == 7) = false := by rw [beq_eq_false_iff_ne]; omega
  have h8 : ((k : Int) == 8) = false := by rw [beq_eq_false_iff_ne]; omega
  have h9 : ((k : Int) == 9) = false := by rw [beq_eq_false_iff_ne]; omega
  have h10 : ((k : Int) == 10) = false := by rw [beq_eq_false_iff_ne]; omega
  have h11 : ((k : Int) == 11) = false := by rw [beq_eq_false_iff_ne]; omega
  have h12 : ((k : Int) == 12) = false := by rw [beq_eq_false_iff_ne]; omega
  clear h
  go_enter Try.func58, Try.ntmps58
  go_wp2
  go_ret2
  exact ⟨rfl, rfl⟩

theorem wrap_u64 (n : Int) : IntKind.u64.wrap n = (Note.u64 n : Int) := by
  rw [IntKind.wrap_u64]; unfold Note.u64; omega

set_option maxRecDepth 100000 in
set_option maxHeartbeats 2000000 in
theorem numbers_any (x : Note.N) (bv : Value) (w : World) (hx : x.wf) :
    Calls Try.prog 30 #[.agg #[.int .u8 (x.k : Int), .int .u8 (x.n : Int), .int .u32 (x.e : Int), .int .u32 (x.l : Int), .int .u32 (x.t : Int), .int .u32 (x.g : Int), .int .u32 (x.j : Int), .int .u32 (x.v : Int), .int .u8 (x.r : Int), .int .i64 x.c, .int .u32 (x.f : Int), .int .u32 (x.o : Int), bv]] w fun e w' => ∃ g, e = .returned (.slice (some ⟨g, 0, none⟩) 11 11) ∧ U64 w' g x.rest ∧ w.heap.size ≤ g ∧ Below w.heap.size w w' := by
  obtain ⟨h1, h2, h3, h4, h5, h6, h7, h8, h9, h10, h11, h12, h13⟩ := hx
  have hw := wrap_u64 x.c
  go_enter Try.func30, Try.ntmps30
  go_wp2
  go_ret
  exact ⟨_, rfl, heap_alloc2_new w _ _, by omega, ((Below.refl _ _).alloc (Nat.le_refl _) _).alloc (by simp) _⟩

theorem i64_or_nat2 (a b : Nat) (ha : a < 4096) (hb : b < 4096) : Go.bits .or .i64 (a : Int) (b : Int) = ((a ||| b : Nat) : Int) := by
  show IntKind.i64.wrap ((BitVec.ofInt 64 (a : Int) ||| BitVec.ofInt 64 (b : Int)).toNat : Int) = _
  rw [BitVec.toNat_or, ofInt_u64 a (by omega), ofInt_u64 b (by omega)]
  have : a ||| b < 2 ^ 12 := Nat.or_lt_two_pow (by omega) (by omega)
  rw [IntKind.wrap_i64]
  omega

theorem or_bit (a k : Nat) (ha : a < 2 ^ k) (hk : k ≤ 11) : Go.bits .or .i64 (a : Int) ((2 ^ k : Nat) : Int) = ((a + 2 ^ k : Nat) : Int) := by
  have h2 : 2 ^ k ≤ 2 ^ 11 := Nat.pow_le_pow_right (by omega) hk
  have h3 := Nat.two_pow_add_eq_or_of_lt ha 1
  rw [Nat.mul_one] at h3
  rw [i64_or_nat2 a (2 ^ k) (by omega) (by omega), Nat.or_comm, ← h3, Nat.add_comm]

theorem wrap_pow (k : Nat) (h : k ≤ 11) : Go.RowKit.wrap64 ((2 : Int) ^ k) = ((2 ^ k : Nat) : Int) := by
  have : k = 0 ∨ k = 1 ∨ k = 2 ∨ k = 3 ∨ k = 4 ∨ k = 5 ∨ k = 6 ∨ k = 7 ∨ k = 8 ∨ k = 9 ∨ k = 10 ∨ k = 11 := by omega
  rcases this with rfl | rfl | rfl | rfl | rfl | rfl | rfl | rfl | rfl | rfl | rfl | rfl <;> decide +kernel

set_option maxRecDepth 100000 in
set_option maxHeartbeats 4000000 in
theorem given_any (x : Note.N) (ad : Option Addr) (cp : Nat) (w : World) (hx : x.wf) :
    Calls Try.prog 59 #[.agg #[.int .u8 (x.k : Int), .int .u8 (x.n : Int), .int .u32 (x.e : Int), .int .u32 (x.l : Int), .int .u32 (x.t : Int), .int .u32 (x.g : Int), .int .u32 (x.j : Int), .int .u32 (x.v : Int), .int .u8 (x.r : Int), .int .i64 x.c, .int .u32 (x.f : Int), .int .u32 (x.o : Int), .slice ad x.b.length cp]] w fun e w' => e = .returned (.int .i64 (x.has : Int)) ∧ Below w.heap.size w w' := by
  have HX := hid hx
  obtain ⟨R, hR⟩ : ∃ R, R = x.rest := ⟨_, rfl⟩
  have hRl : R.length = 11 := by rw [hR]; rfl
  have HR := hid hR
  have HRL := hid hRl
  obtain ⟨L, hL⟩ : ∃ L, L = x.b.length := ⟨_, rfl⟩
  rw [← hL]
  have HL := hid hL
  clear hx hR hRl hL
  go_enter Try.func59, Try.ntmps59
  go_wp2_with fail
  refine (numbers_any x (.slice ad L cp) _ HX.out).mono ?_
  rintro e w1 ⟨g, rfl, hg, hgb, hb1⟩
  rw [← HR.out] at hg
  have HG := hid hg
  have hs1 := hb1.size
  simp at hs1
  have hc12 : w1.cell? ⟨w.heap.size, 12, none⟩ = some (.slice ad L cp) := (hb1.cell (p := ⟨w.heap.size, 12, none⟩) (by simp)).trans ((cell_of_row _ _ _ _ _ _ (heap_alloc_new w _)).trans rfl)
  have HW1 := hid (((Below.refl w.heap.size w).alloc (Nat.le_refl _) _).trans (hb1.mono (by simp)))
  clear hg hb1
  go_wp2
  go_loop [3, 9] (fun h i => ∃ k : Nat, k ≤ 11 ∧ i = .int .i64 k ∧ h = .int .i64 (Note.bits (R.take k) 0 : Int)) (fun _ i => 11 - (intOf i).toNat)
  case atStart => exact ⟨0, by omega, rfl, rfl⟩
  case round =>
    obtain ⟨k, hk, rfl, rfl⟩ := hrel
    by_cases hlt : k < 11
    · have hc : w1.cell? ⟨g, k, none⟩ = some (.int .u64 ((R.getD k 0 : Nat) : Int)) := HG.out.cell k (by have := HRL.out; omega)
      have HB := hid (Note.bits_take R 0 k (by have := HRL.out; omega))
      have HLT := hid (show Note.bits (R.take k) 0 < 2 ^ k from by
        have := Note.bits_lt (R.take k) 0
        rw [List.length_take, Nat.zero_add] at this
        rwa [Nat.min_eq_left (by have := HRL.out; omega)] at this)
      obtain ⟨v, hv⟩ : ∃ v, v = R.getD k 0 := ⟨_, rfl⟩
      rw [← hv] at hc HB
      clear hv
      obtain ⟨a, ha⟩ : ∃ a, a = Note.bits (R.take k) 0 := ⟨_, rfl⟩
      rw [← ha] at HB HLT ⊢
      clear ha
      by_cases hz : v = 0
      · subst hz
        go_wp2
        go_round
        case rel => exact ⟨k + 1, by omega, by go_num, by rw [HB.out]; rfl⟩
        case measure => simp [intOf]; omega
      · have hq : ((v : Int) != 0) = true := by rw [bne_iff_ne]; omega
        have HO := hid (or_bit a k HLT.out (by omega))
        go_wp2
        go_round
        case rel =>
          refine ⟨k + 1, by omega, by go_num, ?_⟩
          rw [HB.out, if_pos hz, Nat.zero_add, wrap_pow k (by omega), HO.out]
        case measure => simp [intOf]; omega
    · obtain rfl : k = 11 := by omega
      have hall : R.take 11 = R := List.take_of_length_le (by have := HRL.out; omega)
      rw [hall]
      have HH := hid (show x.has = Note.bits R 0 + (if L ≠ 0 then 2 ^ (0 + 11) else 0) by
        have h1 := Note.bits_take (R ++ [L]) 0 11 (by have := HRL.out; simp; omega)
        rw [List.take_of_length_le (by have := HRL.out; simp; omega), List.take_left' HRL.out] at h1
        unfold Note.N.has
        rw [← HR.out, ← HL.out, h1]
        congr 2
        have : (R ++ [L]).getD 11 0 = L := by
          have e := HRL.out
          simp [← e]
        rw [this])
      have HLT := hid (show Note.bits R 0 < 2 ^ 11 from by
        have := Note.bits_lt R 0
        rwa [HRL.out] at this)
      obtain ⟨a, ha⟩ : ∃ a, a = Note.bits R 0 := ⟨_, rfl⟩
      rw [← ha] at HH HLT ⊢
      clear ha hall
      by_cases hz : L = 0
      · have hz' : ¬ (0 : Int) < (L : Int) := by omega
        have HH2 := hid (show x.has = a by rw [HH.out, if_neg (by omega)]; rfl)
        go_wp2
        go_ret
        rw [HH2.out]
        exact ⟨rfl, HW1.out⟩
      · have hz' : (0 : Int) < (L : Int) := by omega
        have HO := hid (or_bit a 11 HLT.out (by omega))
        have HH2 := hid (show x.has = a + 2 ^ 11 by rw [HH.out, if_pos hz])
        go_wp2
        go_ret
        rw [HH2.out]
        exact ⟨ret_int HO.out, HW1.out⟩

theorem andnot_all : ∀ m ∈ [10, 15, 480, 32, 48, 16, 1584, 352, 2272, 40], ∀ a : Fin 64, ∀ b : Fin 64, (Go.bits .andNot .i64 ((64 * a.val + b.val : Nat) : Int) ((m : Nat) : Int) == 0) = decide ((64 * a.val + b.val) &&& (4095 - m) = 0) := by decide +kernel

theorem may_mem (k : Nat) (h : 1 ≤ k ∧ k ≤ 12) : Note.may k ∈ [10, 15, 480, 32, 48, 16, 1584, 352, 2272, 40] := by
  have : k = 1 ∨ k = 2 ∨ k = 3 ∨ k = 4 ∨ k = 5 ∨ k = 6 ∨ k = 7 ∨ k = 8 ∨ k = 9 ∨ k = 10 ∨ k = 11 ∨ k = 12 := by omega
  rcases this with rfl | rfl | rfl | rfl | rfl | rfl | rfl | rfl | rfl | rfl | rfl | rfl <;> decide

theorem has_lt (x : Note.N) : x.has < 4096 := by
  have := Note.bits_lt (x.rest ++ [x.b.length]) 0
  have e : (x.rest ++ [x.b.length]).length = 12 := by simp [Note.N.rest]
  rw [e] at this
  exact this

theorem andnot_is (x : Note.N) (h : 1 ≤ x.k ∧ x.k ≤ 12) : (Go.bits .andNot .i64 (x.has : Int) (Note.may x.k : Int) == 0) = x.clear := by
  have hl := has_lt x
  have h1 := andnot_all (Note.may x.k) (may_mem x.k h) ⟨x.has / 64, by omega⟩ ⟨x.has % 64, by omega⟩
  simp only at h1
  rw [Nat.div_add_mod] at h1
  exact h1

set_option maxRecDepth 100000 in
set_option maxHeartbeats 4000000 in
theorem rightnote_any (x : Note.N) (ad : Option Addr) (cp : Nat) (w : World) (hx : x.wf) :
    Calls Try.prog 27 #[.agg #[.int .u8 (x.k : Int), .int .u8 (x.n : Int), .int .u32 (x.e : Int), .int .u32 (x.l : Int), .int .u32 (x.t : Int), .int .u32 (x.g : Int), .int .u32 (x.j : Int), .int .u32 (x.v : Int), .int .u8 (x.r : Int), .int .i64 x.c, .int .u32 (x.f : Int), .int .u32 (x.o : Int), .slice ad x.b.length cp]] w fun e w' => e = .returned (.bool x.right) ∧ Below w.heap.size w w' := by
  have HGIV := hid (fun w => given_any x ad cp w hx)
  obtain ⟨L, hL⟩ : ∃ L, L = x.b.length := ⟨_, rfl⟩
  rw [← hL] at HGIV ⊢
  have HL := hid hL
  clear hL hx
  by_cases hk : 1 ≤ x.k ∧ x.k ≤ 12
  · have HA := hid (andnot_is x hk)
    have HK := hid hk
    by_cases hcl : x.clear = true
    · have hq : (Go.bits .andNot .i64 (x.has : Int) (Note.may x.k : Int) == 0) = true := by rw [HA.out, hcl]
      by_cases c0 : x.n < 16
      · skip
        have d0_0 : (x.n : Int) < 16 := by omega
        by_cases c1 : x.r < 16
        · skip
          have d1_0 : (x.r : Int) < 16 := by omega
          by_cases c2 : (0 ≤ x.c ∧ x.c ≤ 10000)
          · skip
            obtain ⟨c2a, c2b⟩ := c2
            by_cases c3 : L ≤ 1024
            · skip
              have d3_0 : (L : Int) ≤ 1024 := by omega
              have R := hid (show x.right = true by unfold Note.N.right; rw [← HL.out]; first | (simp [*]; done) | (simp [*]; omega))
              go_enter Try.func27, Try.ntmps27
              go_wp2_with fail
              refine (named_yes x.k _ HK.out).mono ?_
              rintro e w' ⟨rfl, rfl⟩
              go_wp2_with fail
              refine (HGIV.out _).mono ?_
              rintro e w2 ⟨rfl, hb2⟩
              have hs2 := hb2.size
              simp at hs2
              have HW2 := hid (((Below.refl w.heap.size w).alloc (Nat.le_refl _) _).trans (hb2.mono (by simp)))
              have hc1 : w2.cell? ⟨w.heap.size, 1, none⟩ = some (.int .u8 (x.n : Int)) := (hb2.cell (p := ⟨w.heap.size, 1, none⟩) (by simp)).trans ((cell_of_row _ _ _ _ _ _ (heap_alloc_new w _)).trans rfl)
              have hc8 : w2.cell? ⟨w.heap.size, 8, none⟩ = some (.int .u8 (x.r : Int)) := (hb2.cell (p := ⟨w.heap.size, 8, none⟩) (by simp)).trans ((cell_of_row _ _ _ _ _ _ (heap_alloc_new w _)).trans rfl)
              have hc9 : w2.cell? ⟨w.heap.size, 9, none⟩ = some (.int .i64 x.c) := (hb2.cell (p := ⟨w.heap.size, 9, none⟩) (by simp)).trans ((cell_of_row _ _ _ _ _ _ (heap_alloc_new w _)).trans rfl)
              have hc12 : w2.cell? ⟨w.heap.size, 12, none⟩ = some (.slice ad L cp) := (hb2.cell (p := ⟨w.heap.size, 12, none⟩) (by simp)).trans ((cell_of_row _ _ _ _ _ _ (heap_alloc_new w _)).trans rfl)
              clear hb2
              go_wp2_with fail
              refine (credit_yes _ _ (by assumption) (by assumption)).mono ?_
              rintro e w' ⟨rfl, rfl⟩
              go_wp2
              go_ret
              exact ⟨(congrArg (fun b => Ending.returned (.bool b)) R.out).symm, HW2.out⟩
            · skip
              have d3_0 : ¬ (L : Int) ≤ 1024 := by omega
              have d3_1 : decide ((L : Int) ≤ 1024) = false := decide_eq_false (by omega)
              have R := hid (show x.right = false by unfold Note.N.right; rw [← HL.out]; first | (simp [*]; done) | (simp [*]; omega))
              go_enter Try.func27, Try.ntmps27
              go_wp2_with fail
              refine (named_yes x.k _ HK.out).mono ?_
              rintro e w' ⟨rfl, rfl⟩
              go_wp2_with fail
              refine (HGIV.out _).mono ?_
              rintro e w2 ⟨rfl, hb2⟩
              have hs2 := hb2.size
              simp at hs2
              have HW2 := hid (((Below.refl w.heap.size w).alloc (Nat.le_refl _) _).trans (hb2.mono (by simp)))
              have hc1 : w2.cell? ⟨w.heap.size, 1, none⟩ = some (.int .u8 (x.n : Int)) := (hb2.cell (p := ⟨w.heap.size, 1, none⟩) (by simp)).trans ((cell_of_row _ _ _ _ _ _ (heap_alloc_new w _)).trans rfl)
              have hc8 : w2.cell? ⟨w.heap.size, 8, none⟩ = some (.int .u8 (x.r : Int)) := (hb2.cell (p := ⟨w.heap.size, 8, none⟩) (by simp)).trans ((cell_of_row _ _ _ _ _ _ (heap_alloc_new w _)).trans rfl)
              have hc9 : w2.cell? ⟨w.heap.size, 9, none⟩ = some (.int .i64 x.c) := (hb2.cell (p := ⟨w.heap.size, 9, none⟩) (by simp)).trans ((cell_of_row _ _ _ _ _ _ (heap_alloc_new w _)).trans rfl)
              have hc12 : w2.cell? ⟨w.heap.size, 12, none⟩ = some (.slice ad L cp) := (hb2.cell (p := ⟨w.heap.size, 12, none⟩) (by simp)).trans ((cell_of_row _ _ _ _ _ _ (heap_alloc_new w _)).trans rfl)
              clear hb2
              go_wp2_with fail
              refine (credit_yes _ _ (by assumption) (by assumption)).mono ?_
              rintro e w' ⟨rfl, rfl⟩
              go_wp2
              go_ret
              exact ⟨(congrArg (fun b => Ending.returned (.bool b)) R.out).symm, HW2.out⟩
          · skip
            have R := hid (show x.right = false by unfold Note.N.right; rw [← HL.out]; first | (simp [*]; done) | (simp [*]; omega))
            go_enter Try.func27, Try.ntmps27
            go_wp2_with fail
            refine (named_yes x.k _ HK.out).mono ?_
            rintro e w' ⟨rfl, rfl⟩
            go_wp2_with fail
            refine (HGIV.out _).mono ?_
            rintro e w2 ⟨rfl, hb2⟩
            have hs2 := hb2.size
            simp at hs2
            have HW2 := hid (((Below.refl w.heap.size w).alloc (Nat.le_refl _) _).trans (hb2.mono (by simp)))
            have hc1 : w2.cell? ⟨w.heap.size, 1, none⟩ = some (.int .u8 (x.n : Int)) := (hb2.cell (p := ⟨w.heap.size, 1, none⟩) (by simp)).trans ((cell_of_row _ _ _ _ _ _ (heap_alloc_new w _)).trans rfl)
            have hc8 : w2.cell? ⟨w.heap.size, 8, none⟩ = some (.int .u8 (x.r : Int)) := (hb2.cell (p := ⟨w.heap.size, 8, none⟩) (by simp)).trans ((cell_of_row _ _ _ _ _ _ (heap_alloc_new w _)).trans rfl)
            have hc9 : w2.cell? ⟨w.heap.size, 9, none⟩ = some (.int .i64 x.c) := (hb2.cell (p := ⟨w.heap.size, 9, none⟩) (by simp)).trans ((cell_of_row _ _ _ _ _ _ (heap_alloc_new w _)).trans rfl)
            have hc12 : w2.cell? ⟨w.heap.size, 12, none⟩ = some (.slice ad L cp) := (hb2.cell (p := ⟨w.heap.size, 12, none⟩) (by simp)).trans ((cell_of_row _ _ _ _ _ _ (heap_alloc_new w _)).trans rfl)
            clear hb2
            go_wp2_with fail
            refine (credit_no _ _ (by assumption)).mono ?_
            rintro e w' ⟨rfl, rfl⟩
            go_wp2
            go_ret
            exact ⟨(congrArg (fun b => Ending.returned (.bool b)) R.out).symm, HW2.out⟩
        · skip
          have d1_0 : ¬ (x.r : Int) < 16 := by omega
          have R := hid (show x.right = false by unfold Note.N.right; rw [← HL.out]; first | (simp [*]; done) | (simp [*]; omega))
          go_enter Try.func27, Try.ntmps27
          go_wp2_with fail
          refine (named_yes x.k _ HK.out).mono ?_
          rintro e w' ⟨rfl, rfl⟩
          go_wp2_with fail
          refine (HGIV.out _).mono ?_
          rintro e w2 ⟨rfl, hb2⟩
          have hs2 := hb2.size
          simp at hs2
          have HW2 := hid (((Below.refl w.heap.size w).alloc (Nat.le_refl _) _).trans (hb2.mono (by simp)))
          have hc1 : w2.cell? ⟨w.heap.size, 1, none⟩ = some (.int .u8 (x.n : Int)) := (hb2.cell (p := ⟨w.heap.size, 1, none⟩) (by simp)).trans ((cell_of_row _ _ _ _ _ _ (heap_alloc_new w _)).trans rfl)
          have hc8 : w2.cell? ⟨w.heap.size, 8, none⟩ = some (.int .u8 (x.r : Int)) := (hb2.cell (p := ⟨w.heap.size, 8, none⟩) (by simp)).trans ((cell_of_row _ _ _ _ _ _ (heap_alloc_new w _)).trans rfl)
          have hc9 : w2.cell? ⟨w.heap.size, 9, none⟩ = some (.int .i64 x.c) := (hb2.cell (p := ⟨w.heap.size, 9, none⟩) (by simp)).trans ((cell_of_row _ _ _ _ _ _ (heap_alloc_new w _)).trans rfl)
          have hc12 : w2.cell? ⟨w.heap.size, 12, none⟩ = some (.slice ad L cp) := (hb2.cell (p := ⟨w.heap.size, 12, none⟩) (by simp)).trans ((cell_of_row _ _ _ _ _ _ (heap_alloc_new w _)).trans rfl)
          clear hb2
          go_wp2
          go_ret
          exact ⟨(congrArg (fun b => Ending.returned (.bool b)) R.out).symm, HW2.out⟩
      · skip
        have d0_0 : ¬ (x.n : Int) < 16 := by omega
        have R := hid (show x.right = false by unfold Note.N.right; rw [← HL.out]; first | (simp [*]; done) | (simp [*]; omega))
        go_enter Try.func27, Try.ntmps27
        go_wp2_with fail
        refine (named_yes x.k _ HK.out).mono ?_
        rintro e w' ⟨rfl, rfl⟩
        go_wp2_with fail
        refine (HGIV.out _).mono ?_
        rintro e w2 ⟨rfl, hb2⟩
        have hs2 := hb2.size
        simp at hs2
        have HW2 := hid (((Below.refl w.heap.size w).alloc (Nat.le_refl _) _).trans (hb2.mono (by simp)))
        have hc1 : w2.cell? ⟨w.heap.size, 1, none⟩ = some (.int .u8 (x.n : Int)) := (hb2.cell (p := ⟨w.heap.size, 1, none⟩) (by simp)).trans ((cell_of_row _ _ _ _ _ _ (heap_alloc_new w _)).trans rfl)
        have hc8 : w2.cell? ⟨w.heap.size, 8, none⟩ = some (.int .u8 (x.r : Int)) := (hb2.cell (p := ⟨w.heap.size, 8, none⟩) (by simp)).trans ((cell_of_row _ _ _ _ _ _ (heap_alloc_new w _)).trans rfl)
        have hc9 : w2.cell? ⟨w.heap.size, 9, none⟩ = some (.int .i64 x.c) := (hb2.cell (p := ⟨w.heap.size, 9, none⟩) (by simp)).trans ((cell_of_row _ _ _ _ _ _ (heap_alloc_new w _)).trans rfl)
        have hc12 : w2.cell? ⟨w.heap.size, 12, none⟩ = some (.slice ad L cp) := (hb2.cell (p := ⟨w.heap.size, 12, none⟩) (by simp)).trans ((cell_of_row _ _ _ _ _ _ (heap_alloc_new w _)).trans rfl)
        clear hb2
        go_wp2
        go_ret
        exact ⟨(congrArg (fun b => Ending.returned (.bool b)) R.out).symm, HW2.out⟩
    · have hcf : x.clear = false := by simpa using hcl
      have hq : (Go.bits .andNot .i64 (x.has : Int) (Note.may x.k : Int) == 0) = false := by rw [HA.out, hcf]
      have R := hid (show x.right = false by unfold Note.N.right; rw [← HL.out]; first | (simp [*]; done) | (simp [*]; omega))
      go_enter Try.func27, Try.ntmps27
      go_wp2_with fail
      refine (named_yes x.k _ HK.out).mono ?_
      rintro e w' ⟨rfl, rfl⟩
      go_wp2_with fail
      refine (HGIV.out _).mono ?_
      rintro e w2 ⟨rfl, hb2⟩
      have hs2 := hb2.size
      simp at hs2
      have HW2 := hid (((Below.refl w.heap.size w).alloc (Nat.le_refl _) _).trans (hb2.mono (by simp)))
      have hc1 : w2.cell? ⟨w.heap.size, 1, none⟩ = some (.int .u8 (x.n : Int)) := (hb2.cell (p := ⟨w.heap.size, 1, none⟩) (by simp)).trans ((cell_of_row _ _ _ _ _ _ (heap_alloc_new w _)).trans rfl)
      have hc8 : w2.cell? ⟨w.heap.size, 8, none⟩ = some (.int .u8 (x.r : Int)) := (hb2.cell (p := ⟨w.heap.size, 8, none⟩) (by simp)).trans ((cell_of_row _ _ _ _ _ _ (heap_alloc_new w _)).trans rfl)
      have hc9 : w2.cell? ⟨w.heap.size, 9, none⟩ = some (.int .i64 x.c) := (hb2.cell (p := ⟨w.heap.size, 9, none⟩) (by simp)).trans ((cell_of_row _ _ _ _ _ _ (heap_alloc_new w _)).trans rfl)
      have hc12 : w2.cell? ⟨w.heap.size, 12, none⟩ = some (.slice ad L cp) := (hb2.cell (p := ⟨w.heap.size, 12, none⟩) (by simp)).trans ((cell_of_row _ _ _ _ _ _ (heap_alloc_new w _)).trans rfl)
      clear hb2
      go_wp2
      go_ret
      exact ⟨(congrArg (fun b => Ending.returned (.bool b)) R.out).symm, HW2.out⟩
  · have R := hid (show x.right = false by unfold Note.N.right; rw [decide_eq_false hk]; rfl)
    have HK := hid hk
    clear hk
    go_enter Try.func27, Try.ntmps27
    go_wp2_with fail
    refine (named_no x.k _ HK.out).mono ?_
    rintro e w' ⟨rfl, rfl⟩
    go_wp2
    go_ret
    exact ⟨(congrArg (fun b => Ending.returned (.bool b)) R.out).symm, (Below.refl _ _).alloc (Nat.le_refl _) _⟩

end Go.Proofs.Ytafpgglebjllbaa
