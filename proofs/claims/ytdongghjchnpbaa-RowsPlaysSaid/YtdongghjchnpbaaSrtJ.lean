/-
  slices.Sort at []uint32: a row of the caller's own is made to rise.
-/
import Derived.Test.YtdongghjchnpbaaSrtI
import Derived.Test.YtdongghjchnpbaaKeepT
import Derived.LoopTactic
namespace Go.Proofs.Ytdongghjchnpbaa
open Go.RowKit
set_option linter.unusedVariables false

/-- The numbers, rising. -/
def rising (l : List Nat) : List Nat := l.mergeSort (fun x y => !ltN y x)
theorem rising_len (l : List Nat) : (rising l).length = l.length := List.length_mergeSort l
theorem rising_nil : rising [] = [] := by unfold rising; simp

theorem insNil_any (w : World) : Calls Try.prog 85 #[.slice none 0 0, .int .i64 0, .int .i64 0] w fun e w' => (∃ u, e = .returned u) ∧ w' = w := by
  go_enter Try.func85, Try.ntmps85
  go_wp2
  go_loopw [6] (fun i wr => i = .int .i64 1 ∧ wr = w) (fun _ _ => 0)
  case atStart => exact ⟨by go_num, rfl⟩
  case round =>
    obtain ⟨rfl, rfl⟩ := hrel
    go_wp2
    go_end0
    exact ⟨⟨_, rfl⟩, rfl⟩

theorem pdqNil_any (w : World) : Calls Try.prog 73 #[.slice none 0 0, .int .i64 0, .int .i64 0, .int .i64 0] w fun e w' => (∃ u, e = .returned u) ∧ w' = w := by
  go_enter Try.func73, Try.ntmps73
  go_wp2
  go_loopw [1, 2, 3, 8, 9] (fun s1 s2 s3 s8 s9 wr => s1 = .int .i64 0 ∧ s2 = .int .i64 0 ∧ s3 = .int .i64 0 ∧ s8 = .bool true ∧ s9 = .bool true ∧ wr = w) (fun _ _ _ _ _ _ => 0)
  case atStart => exact ⟨rfl, rfl, rfl, rfl, rfl, rfl⟩
  case round =>
    obtain ⟨rfl, rfl, rfl, rfl, rfl, rfl⟩ := hrel
    go_wp2_with fail
    refine (insNil_any _).mono ?_
    rintro e w1 ⟨⟨u, rfl⟩, rfl⟩
    go_wp2_with fail
    refine bodyPost_ret (results_none rfl _ _ _) rfl ?_
    exact ⟨⟨_, rfl⟩, rfl⟩

theorem sortNil_any (w : World) : Calls Try.prog 61 #[.slice none 0 0] w fun e w' => (∃ u, e = .returned u) ∧ w' = w := by
  have hl : Calls Try.prog 74 #[.int .u64 0] w fun e w' => e = .returned (.int .i64 0) ∧ w' = w := by
    have := len_any 0 (by omega) w
    exact this
  go_enter Try.func61, Try.ntmps61
  go_wp2_with fail
  refine hl.mono ?_
  rintro e w1 ⟨rfl, rfl⟩
  go_wp2_with fail
  refine (pdqNil_any _).mono ?_
  rintro e w1 ⟨⟨u, rfl⟩, rfl⟩
  go_wp2_with fail
  go_end0
  exact ⟨⟨_, rfl⟩, rfl⟩

theorem sortRow_any (w : World) (g n cap : Nat) (tl : List Value) (d : Array Nat) (h : ArrAt w g 0 [] tl d) (hn : d.size = n) (hm : n ≤ 1000000000000) :
    Calls Try.prog 61 #[.slice (some ⟨g, 0, none⟩) n cap] w fun e w' => (∃ u, e = .returned u) ∧ Made w g 0 [] tl (rising d.toList).toArray w' := by
  have hk : Sort.bitsLen n ≤ 62 := (Sort.bitsLen_le_iff n 62).2 (by omega)
  have wr : IntKind.u64.wrap (n : Int) = n := by simp [IntKind.wrap, IntKind.bits, IntKind.signed]; omega
  have hs : Sort.pdq ltN d 0 n (Sort.bitsLen n) true true = (rising d.toList).toArray := by
    obtain ⟨hp, hso⟩ := Sort.pdq_sorts ltN ltN_swo d 0 n (Sort.bitsLen n) true true (Nat.zero_le _) (by omega) (Or.inl rfl)
    have := Sort.sorted_unique_holds ltN_swo (fun x y h k => by simp only [ltN, decide_eq_false_iff_not] at h k; omega) d (Sort.pdq ltN d 0 n (Sort.bitsLen n) true true) (by rw [hn]; exact hp) (by rw [hn]; exact hso)
    unfold rising
    rw [← this]
  have HH := hid h
  have HS := hid hs
  have HN := hid hn
  clear h hs hn
  go_enter Try.func61, Try.ntmps61
  go_wp2_with fail
  refine (len_any n (by omega) w).mono ?_
  rintro e w1 ⟨rfl, rfl⟩
  go_wp2_with fail
  refine (pdq_any (n + 1) _ g 0 n cap [] tl d 0 n (Sort.bitsLen n) (by omega) HH.out (by have := HN.out; omega) (Nat.zero_le _) (by have := HN.out; omega) hm (by omega) (Or.inl rfl)).mono ?_
  rw [HS.out]
  rintro e w1 ⟨⟨u, rfl⟩, hM⟩
  have HM := hid hM
  clear hM
  go_wp2_with fail
  go_end0
  exact ⟨⟨_, rfl⟩, HM.out⟩

/-- A row of the caller's own. -/
theorem sort_any (w : World) (base : Nat) (v : Value) (l : List Nat) (h : w.ownsRow base 33 1 v l.length (l.map uv)) (hm : l.length ≤ 1000000000000) :
    Calls Try.prog 61 #[v] w fun e w' => (∃ u, e = .returned u) ∧ w'.ownsRow base 33 1 v l.length ((rising l).map uv) ∧ Keeps (fun k => v.ownBlock = some k) w w' := by
  rcases h.2 with ⟨rfl, hn⟩ | ⟨g, cap, cur, rfl, hbg, hg, h1, h2, h3, h4⟩
  · have hl : l = [] := List.eq_nil_of_length_eq_zero hn
    subst hl
    refine (sortNil_any w).mono ?_
    rintro e w' ⟨hu, rfl⟩
    exact ⟨hu, by rw [rising_nil]; exact h, Keeps.refl _ _⟩
  · rw [Nat.mul_one] at h3 h4
    have ha : ArrAt w g 0 [] (cur.toList.drop l.length) l.toArray := by
      refine ⟨?_, rfl⟩
      rw [hg, List.nil_append, ← h4, List.take_append_drop, Array.toArray_toList]
    refine (sortRow_any w g l.length cap _ l.toArray ha (by simp) hm).mono ?_
    rintro e w' ⟨hu, hM⟩
    refine ⟨hu, ⟨by rw [List.length_map, rising_len, Nat.mul_one], .inr ⟨g, cap, _, rfl, hbg, hM.arr.blk, h1, h2, ?_, ?_⟩⟩, hM.keeps.mono fun i _ hi => by rw [hi]; rfl⟩
    · simp only [List.nil_append, List.size_toArray, List.length_append, List.length_map, List.length_drop, Array.length_toList, rising_len, h3, Nat.mul_one]
      omega
    · rw [Nat.mul_one]
      exact List.take_left' (by simp [rising_len])

end Go.Proofs.Ytdongghjchnpbaa
