/-
  What a row of numbers is, as a note, a request, a reply, a packet: plain words.
-/
import Derived.Test.YtafpgglebjllbaaNoteRw
namespace Go.Proofs.Ytafpgglebjllbaa
namespace Note

/-- A number of 64 bits, read as a whole number. -/
def s64 (n : Nat) : Int := if n < 9223372036854775808 then (n : Int) else (n : Int) - 18446744073709551616

theorem s64_u64 (c : Int) (h0 : 0 ≤ c) (h : c < 9223372036854775808) : s64 (u64 c) = c := by
  unfold s64 u64
  split <;> omega

theorem s64_bd (n : Nat) (h : n < 18446744073709551616) : -9223372036854775808 ≤ s64 n ∧ s64 n < 9223372036854775808 := by
  unfold s64
  split <;> omega

def N.ofRow (ns : List Nat) (b : List UInt8) : N := ⟨ns.getD 1 0 % 256, ns.getD 2 0 % 256, ns.getD 3 0 % 4294967296, ns.getD 4 0 % 4294967296, ns.getD 5 0 % 4294967296, ns.getD 6 0 % 4294967296, ns.getD 7 0 % 4294967296, ns.getD 8 0 % 4294967296, ns.getD 9 0 % 256, s64 (ns.getD 10 0), ns.getD 11 0 % 4294967296, ns.getD 12 0 % 4294967296, b⟩

theorem N.ofRow_ns (y : N) (h : y.ok) : N.ofRow (1 :: y.ns) y.b = y := by
  obtain ⟨h1, h2, h3, h4, h5, h6, h7, h8, h9, h10, h11, h12, h13⟩ := h.1
  obtain ⟨_, _, _, _, hc, _⟩ := N.right_of y h.2
  have e0 := s64_u64 y.c hc.1 (by omega)
  cases y
  simp only at *
  simp only [N.ofRow, N.ns, List.getD_cons_succ, List.getD_cons_zero, N.mk.injEq, e0]
  refine ⟨?_, ?_, ?_, ?_, ?_, ?_, ?_, ?_, ?_, ?_, ?_, ?_, ?_⟩
  all_goals first | rfl | omega | (split <;> simp_all) | simp_all

theorem N.ns_lt (y : N) (h : y.ok) : ∀ n ∈ (1 :: y.ns), n < 18446744073709551616 := by
  obtain ⟨h1, h2, h3, h4, h5, h6, h7, h8, h9, h10, h11, h12, h13⟩ := h.1
  obtain ⟨_, _, _, _, hc, _⟩ := N.right_of y h.2
  have u1 := u64_lt
  intro n hn
  simp only [N.ns, List.mem_cons, List.not_mem_nil, or_false] at hn
  rcases hn with rfl | rfl | rfl | rfl | rfl | rfl | rfl | rfl | rfl | rfl | rfl | rfl | rfl
  all_goals first | omega | exact u1 _ | (split <;> omega)

theorem N.row_back (y : N) (h : y.ok) : iterN 13 (some y.enc) = (1 :: y.ns, some (tail (some y.b))) ∧ rowEnd true (some (tail (some y.b))) = (y.b, some []) := by
  constructor
  · have := iterN_back (1 :: y.ns) (tail (some y.b)) (y.ns_lt h)
    exact this
  · have hb : y.b.length < 18446744073709551616 := by have := N.right_of y h.2; omega
    have := Ink.stText_back y.b [] hb
    rw [List.append_nil] at this
    exact this

theorem N.ofRow_wf (ns : List Nat) (b : List UInt8) (hn : ∀ n ∈ ns, n < 18446744073709551616) : (N.ofRow ns b).wf := by
  have hg : ∀ i, ns.getD i 0 < 18446744073709551616 := by
    intro i
    by_cases hi : i < ns.length
    · rw [List.getD_eq_getElem?_getD, List.getElem?_eq_getElem hi]; exact hn _ (List.getElem_mem hi)
    · rw [List.getD_eq_getElem?_getD, List.getElem?_eq_none (by omega)]; simp
  have hs := fun i => s64_bd (ns.getD i 0) (hg i)
  unfold N.wf N.ofRow
  simp only
  refine ⟨?_, ?_, ?_, ?_, ?_, ?_, ?_, ?_, ?_, ?_, ?_, ?_, ?_⟩
  all_goals first | omega | exact (hs _).1 | exact (hs _).2 | exact Nat.mod_lt _ (by omega)

def Q.ofRow (ns : List Nat) : Q := ⟨ns.getD 1 0 % 256, ns.getD 2 0 % 4294967296, ns.getD 3 0 % 256, ns.getD 4 0 % 256, s64 (ns.getD 5 0), s64 (ns.getD 6 0), ns.getD 7 0 % 4294967296⟩

theorem Q.ofRow_ns (y : Q) (h : y.ok) : Q.ofRow (2 :: y.ns) = y := by
  obtain ⟨h1, h2, h3, h4, h5, h6, h7, h8, h9⟩ := h.1
  obtain ⟨_, hc, hd, _⟩ := Q.right_of y h.2
  have e0 := s64_u64 y.kk hc.1 (by omega)
  have e1 := s64_u64 y.w hd.1 (by omega)
  cases y
  simp only at *
  simp only [Q.ofRow, Q.ns, List.getD_cons_succ, List.getD_cons_zero, Q.mk.injEq, e0, e1]
  refine ⟨?_, ?_, ?_, ?_, ?_, ?_, ?_⟩
  all_goals first | rfl | omega | (split <;> simp_all) | simp_all

theorem Q.ns_lt (y : Q) (h : y.ok) : ∀ n ∈ (2 :: y.ns), n < 18446744073709551616 := by
  obtain ⟨h1, h2, h3, h4, h5, h6, h7, h8, h9⟩ := h.1
  obtain ⟨_, hc, hd, _⟩ := Q.right_of y h.2
  have u1 := u64_lt
  intro n hn
  simp only [Q.ns, List.mem_cons, List.not_mem_nil, or_false] at hn
  rcases hn with rfl | rfl | rfl | rfl | rfl | rfl | rfl | rfl
  all_goals first | omega | exact u1 _ | (split <;> omega)

theorem Q.row_back (y : Q) (h : y.ok) : iterN 8 (some y.enc) = (2 :: y.ns, some (tail none)) ∧ rowEnd false (some (tail none)) = ([], some []) := by
  constructor
  · have := iterN_back (2 :: y.ns) (tail none) (y.ns_lt h)
    exact this
  · skip
    skip
    skip
    rfl

theorem Q.ofRow_wf (ns : List Nat) (hn : ∀ n ∈ ns, n < 18446744073709551616) : (Q.ofRow ns).wf := by
  have hg : ∀ i, ns.getD i 0 < 18446744073709551616 := by
    intro i
    by_cases hi : i < ns.length
    · rw [List.getD_eq_getElem?_getD, List.getElem?_eq_getElem hi]; exact hn _ (List.getElem_mem hi)
    · rw [List.getD_eq_getElem?_getD, List.getElem?_eq_none (by omega)]; simp
  have hs := fun i => s64_bd (ns.getD i 0) (hg i)
  unfold Q.wf Q.ofRow
  simp only
  refine ⟨?_, ?_, ?_, ?_, ?_, ?_, ?_, ?_, ?_⟩
  all_goals first | omega | exact (hs _).1 | exact (hs _).2 | exact Nat.mod_lt _ (by omega)

def R.ofRow (ns : List Nat) : R := ⟨ns.getD 1 0 % 256, ns.getD 2 0 % 4294967296, s64 (ns.getD 3 0), ns.getD 4 0 % 4294967296, ns.getD 5 0 % 256, s64 (ns.getD 6 0)⟩

theorem R.ofRow_ns (y : R) (h : y.ok) : R.ofRow (3 :: y.ns) = y := by
  obtain ⟨h1, h2, h3, h4, h5, h6, h7, h8⟩ := h.1
  obtain ⟨_, hc, _, hd⟩ := R.right_of y h.2
  have e0 := s64_u64 y.e hc.1 (by omega)
  have e1 := s64_u64 y.c hd.1 (by omega)
  cases y
  simp only at *
  simp only [R.ofRow, R.ns, List.getD_cons_succ, List.getD_cons_zero, R.mk.injEq, e0, e1]
  refine ⟨?_, ?_, ?_, ?_, ?_, ?_⟩
  all_goals first | rfl | omega | (split <;> simp_all) | simp_all

theorem R.ns_lt (y : R) (h : y.ok) : ∀ n ∈ (3 :: y.ns), n < 18446744073709551616 := by
  obtain ⟨h1, h2, h3, h4, h5, h6, h7, h8⟩ := h.1
  obtain ⟨_, hc, _, hd⟩ := R.right_of y h.2
  have u1 := u64_lt
  intro n hn
  simp only [R.ns, List.mem_cons, List.not_mem_nil, or_false] at hn
  rcases hn with rfl | rfl | rfl | rfl | rfl | rfl | rfl
  all_goals first | omega | exact u1 _ | (split <;> omega)

theorem R.row_back (y : R) (h : y.ok) : iterN 7 (some y.enc) = (3 :: y.ns, some (tail none)) ∧ rowEnd false (some (tail none)) = ([], some []) := by
  constructor
  · have := iterN_back (3 :: y.ns) (tail none) (y.ns_lt h)
    exact this
  · skip
    skip
    skip
    rfl

theorem R.ofRow_wf (ns : List Nat) (hn : ∀ n ∈ ns, n < 18446744073709551616) : (R.ofRow ns).wf := by
  have hg : ∀ i, ns.getD i 0 < 18446744073709551616 := by
    intro i
    by_cases hi : i < ns.length
    · rw [List.getD_eq_getElem?_getD, List.getElem?_eq_getElem hi]; exact hn _ (List.getElem_mem hi)
    · rw [List.getD_eq_getElem?_getD, List.getElem?_eq_none (by omega)]; simp
  have hs := fun i => s64_bd (ns.getD i 0) (hg i)
  unfold R.wf R.ofRow
  simp only
  refine ⟨?_, ?_, ?_, ?_, ?_, ?_, ?_, ?_⟩
  all_goals first | omega | exact (hs _).1 | exact (hs _).2 | exact Nat.mod_lt _ (by omega)

def P.ofRow (ns : List Nat) (b : List UInt8) : P := ⟨ns.getD 1 0 % 256, ns.getD 2 0 % 4294967296, ns.getD 3 0 % 4294967296, ns.getD 4 0 % 4294967296, ns.getD 5 0 % 4294967296, decide (ns.getD 6 0 = 1), b⟩

theorem P.ofRow_ns (y : P) (h : y.ok) : P.ofRow (4 :: y.ns) y.b = y := by
  obtain ⟨h1, h2, h3, h4, h5⟩ := h.1
  cases y
  simp only at *
  simp only [P.ofRow, P.ns, List.getD_cons_succ, List.getD_cons_zero, P.mk.injEq]
  refine ⟨?_, ?_, ?_, ?_, ?_, ?_, ?_⟩
  all_goals first | rfl | omega | (split <;> simp_all) | simp_all

theorem P.ns_lt (y : P) (h : y.ok) : ∀ n ∈ (4 :: y.ns), n < 18446744073709551616 := by
  obtain ⟨h1, h2, h3, h4, h5⟩ := h.1
  have u1 := u64_lt
  intro n hn
  simp only [P.ns, List.mem_cons, List.not_mem_nil, or_false] at hn
  rcases hn with rfl | rfl | rfl | rfl | rfl | rfl | rfl
  all_goals first | omega | exact u1 _ | (split <;> omega)

theorem P.row_back (y : P) (h : y.ok) : iterN 7 (some y.enc) = (4 :: y.ns, some (tail (some y.b))) ∧ rowEnd true (some (tail (some y.b))) = (y.b, some []) := by
  constructor
  · have := iterN_back (4 :: y.ns) (tail (some y.b)) (y.ns_lt h)
    exact this
  · have hb : y.b.length < 18446744073709551616 := by have := P.right_of y h.2; omega
    have := Ink.stText_back y.b [] hb
    rw [List.append_nil] at this
    exact this

theorem P.ofRow_wf (ns : List Nat) (b : List UInt8)  : (P.ofRow ns b).wf := by
  skip
  unfold P.wf P.ofRow
  simp only
  refine ⟨?_, ?_, ?_, ?_, ?_⟩
  all_goals first | omega | exact (hs _).1 | exact (hs _).2 | exact Nat.mod_lt _ (by omega)

theorem stNum_lt (s : Option (List UInt8)) : (Ink.stNum s).1 < 18446744073709551616 := by
  cases s with
  | none => simp [Ink.stNum]
  | some r =>
    by_cases h : (Ink.front r).2 = 0
    · simp [Ink.stNum, h]
    · have := (Ink.front_back r (Ink.front r).1 (Ink.front r).2 rfl h).2
      simpa [Ink.stNum, h] using this

theorem iterN_lt (s : Option (List UInt8)) : ∀ k, ∀ n ∈ (iterN k s).1, n < 18446744073709551616
  | 0 => fun n hn => by cases hn
  | k + 1 => fun n hn => by
    simp only [iterN, List.mem_append, List.mem_singleton] at hn
    rcases hn with hn | rfl
    · exact iterN_lt s k n hn
    · exact stNum_lt _

end Note
end Go.Proofs.Ytafpgglebjllbaa
