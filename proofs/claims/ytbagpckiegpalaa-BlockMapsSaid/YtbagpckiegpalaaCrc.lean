/-
  Plain mathematics of CRC-32C, bit by bit: the step is linear and injective; a burst of at most 32 bits never vanishes. Nothing of a program here.
-/
namespace Go.Proofs.Ytbagpckiegpalaa.Crc

def poly : BitVec 32 := 0x82f63b78#32

/-- One step of the register, as the code does it. -/
def bit (c : BitVec 32) : BitVec 32 := (c >>> 1) ^^^ (poly &&& (0#32 - (c &&& 1#32)))

theorem and_one (c : BitVec 32) : c &&& 1#32 = if c.getLsbD 0 then 1#32 else 0#32 := by
  apply BitVec.eq_of_getLsbD_eq
  intro i hi
  rw [BitVec.getLsbD_and]
  cases h : c.getLsbD 0
  · cases i with
    | zero => simpa using h
    | succ i => simp
  · cases i with
    | zero => simpa using h
    | succ i => simp

theorem bit_eq (c : BitVec 32) : bit c = (c >>> 1) ^^^ (if c.getLsbD 0 then poly else 0#32) := by
  unfold bit
  rw [and_one]
  cases c.getLsbD 0
  · simp
  · simp; decide

theorem bit_xor (x y : BitVec 32) : bit (x ^^^ y) = bit x ^^^ bit y := by
  rw [bit_eq, bit_eq, bit_eq]
  apply BitVec.eq_of_getLsbD_eq
  intro i hi
  simp only [BitVec.getLsbD_xor, BitVec.getLsbD_ushiftRight]
  cases x.getLsbD 0 <;> cases y.getLsbD 0 <;> simp <;> cases x.getLsbD (1 + i) <;> cases y.getLsbD (1 + i) <;> cases poly.getLsbD i <;> rfl

theorem bit_zero : bit 0#32 = 0#32 := by decide

theorem bit_inj (x : BitVec 32) (h : bit x = 0#32) : x = 0#32 := by
  rw [bit_eq] at h
  cases h0 : x.getLsbD 0
  · rw [h0] at h
    apply BitVec.eq_of_getLsbD_eq
    intro i hi
    cases i with
    | zero => simpa using h0
    | succ i =>
      have := congrArg (fun v => v.getLsbD i) h
      simp only [BitVec.getLsbD_xor, BitVec.getLsbD_ushiftRight] at this
      simp at this
      rw [Nat.add_comm] at this
      simpa using this
  · rw [h0] at h
    exfalso
    have := congrArg (fun v => v.getLsbD 31) h
    simp only [BitVec.getLsbD_xor, BitVec.getLsbD_ushiftRight] at this
    have hp : poly.getLsbD 31 = true := by decide
    simp at this
    simp at hp
    rw [this] at hp
    cases hp

def bits : Nat → BitVec 32 → BitVec 32
  | 0, c => c
  | n + 1, c => bits n (bit c)

theorem bits_succ (n : Nat) (c : BitVec 32) : bits (n + 1) c = bit (bits n c) := by
  induction n generalizing c with
  | zero => rfl
  | succ n ih => show bits (n + 1) (bit c) = _; rw [ih]; rfl

theorem bits_xor (n : Nat) (x y : BitVec 32) : bits n (x ^^^ y) = bits n x ^^^ bits n y := by
  induction n generalizing x y with
  | zero => rfl
  | succ n ih => show bits n (bit (x ^^^ y)) = _; rw [bit_xor, ih]; rfl

theorem bits_zero (n : Nat) : bits n 0#32 = 0#32 := by
  induction n with
  | zero => rfl
  | succ n ih => show bits n (bit 0#32) = _; rw [bit_zero, ih]

theorem bits_inj (n : Nat) (x : BitVec 32) (h : bits n x = 0#32) : x = 0#32 := by
  induction n generalizing x with
  | zero => exact h
  | succ n ih => exact bit_inj x (ih _ h)

theorem bits_add (m n : Nat) (x : BitVec 32) : bits (m + n) x = bits n (bits m x) := by
  induction m generalizing x with
  | zero => rw [Nat.zero_add]; rfl
  | succ m ih => rw [Nat.succ_add]; exact ih (bit x)

def byte (c : BitVec 32) (b : UInt8) : BitVec 32 := bits 8 (c ^^^ b.toBitVec.setWidth 32)

/-- The sum of a list of bytes. -/
def sum (l : List UInt8) : BitVec 32 := ~~~ (l.foldl byte 0xffffffff#32)

/-- One bit of the message into the register. -/
def step (c : BitVec 32) (b : Bool) : BitVec 32 := bit (c ^^^ (if b then 1#32 else 0#32))

/-- The bits x 0, x 1, .. x (n - 1), one behind the other. -/
def run (x : Nat → Bool) : Nat → BitVec 32 → BitVec 32
  | 0, c => c
  | n + 1, c => step (run x n c) (x n)

theorem run_congr (x y : Nat → Bool) (n : Nat) (c : BitVec 32) (h : ∀ k, k < n → x k = y k) : run x n c = run y n c := by
  induction n with
  | zero => rfl
  | succ n ih =>
    show step (run x n c) (x n) = step (run y n c) (y n)
    rw [ih (fun k hk => h k (by omega)), h n (by omega)]

theorem run_add (x : Nat → Bool) (m n : Nat) (c : BitVec 32) : run x (m + n) c = run (fun k => x (m + k)) n (run x m c) := by
  induction n with
  | zero => rfl
  | succ n ih => show step (run x (m + n) c) (x (m + n)) = _; rw [ih]; rfl

theorem run_xor (x y : Nat → Bool) (n : Nat) (c d : BitVec 32) : run x n c ^^^ run y n d = run (fun k => x k ^^ y k) n (c ^^^ d) := by
  induction n with
  | zero => rfl
  | succ n ih =>
    show step (run x n c) (x n) ^^^ step (run y n d) (y n) = step _ (x n ^^ y n)
    rw [← ih]
    unfold step
    rw [← bit_xor]
    congr 1
    generalize run x n c = p
    generalize run y n d = q
    have e : (if (x n ^^ y n) = true then 1#32 else 0#32) = (if x n = true then 1#32 else 0#32) ^^^ (if y n = true then 1#32 else 0#32) := by
      cases x n <;> cases y n <;> decide
    rw [e]
    ac_rfl

theorem bit_word (c w : BitVec 32) : bit (c ^^^ w) = step c (w.getLsbD 0) ^^^ (w >>> 1) := by
  have e : bit w = bit (if w.getLsbD 0 then 1#32 else 0#32) ^^^ (w >>> 1) := by
    rw [bit_eq w]
    cases w.getLsbD 0
    · simp [bit_zero]
    · have : bit 1#32 = poly := by decide
      simp [this, BitVec.xor_comm]
  unfold step
  rw [bit_xor, bit_xor, e, BitVec.xor_assoc]

theorem bits_word (n : Nat) (c w : BitVec 32) : bits n (c ^^^ w) = run (fun i => w.getLsbD i) n c ^^^ (w >>> n) := by
  induction n with
  | zero => simp [bits, run]
  | succ n ih =>
    rw [bits_succ, ih, bit_word]
    show step _ _ ^^^ _ = step _ _ ^^^ _
    congr 1

def bitAt (l : List UInt8) (k : Nat) : Bool := (l.getD (k / 8) 0).toBitVec.getLsbD (k % 8)

theorem byte_run (c : BitVec 32) (b : UInt8) : byte c b = run (fun i => b.toBitVec.getLsbD i) 8 c := by
  unfold byte
  rw [bits_word]
  have hz : (b.toBitVec.setWidth 32) >>> 8 = 0#32 := by
    apply BitVec.eq_of_getLsbD_eq
    intro i hi
    simp only [BitVec.getLsbD_ushiftRight, BitVec.getLsbD_setWidth]
    rw [BitVec.getLsbD_of_ge b.toBitVec (8 + i) (by omega)]
    simp
  rw [hz, BitVec.xor_zero]
  apply run_congr
  intro k hk
  rw [BitVec.getLsbD_setWidth]
  simp; omega

theorem fold_run (l : List UInt8) (c : BitVec 32) (j : Nat) (hj : j ≤ l.length) : (l.take j).foldl byte c = run (bitAt l) (8 * j) c := by
  induction j with
  | zero => rfl
  | succ j ih =>
    rw [List.take_succ_eq_append_getElem (by omega), List.foldl_append, ih (by omega), show 8 * (j + 1) = 8 * j + 8 by omega, run_add]
    show byte _ _ = _
    rw [byte_run]
    apply run_congr
    intro k hk
    unfold bitAt
    rw [show (8 * j + k) / 8 = j by omega, show (8 * j + k) % 8 = k by omega]
    simp [List.getElem?_eq_getElem (show j < l.length by omega)]

theorem fold_bits (l : List UInt8) (c : BitVec 32) : l.foldl byte c = run (bitAt l) (8 * l.length) c := by
  have := fold_run l c l.length (Nat.le_refl _)
  rwa [List.take_length] at this

/-- The first m bits of a pattern. -/
def low (pat : BitVec 32) (m : Nat) : BitVec 32 := pat &&& ~~~((~~~0#32) <<< m)

theorem low_bit (pat : BitVec 32) (m i : Nat) (hi : i < 32) : (low pat m).getLsbD i = (pat.getLsbD i && decide (i < m)) := by
  unfold low
  simp only [BitVec.getLsbD_and, BitVec.getLsbD_not, BitVec.getLsbD_shiftLeft]
  by_cases h : i < m
  · simp [h, hi]
  · have h2 : i - m < 32 := by omega
    simp [h, hi, h2]

theorem bits_one (m : Nat) (hm : m < 32) : bits m (1#32 <<< m) = 1#32 := by
  induction m with
  | zero => rfl
  | succ m ih =>
    show bits m (bit (1#32 <<< (m + 1))) = 1#32
    have e : bit (1#32 <<< (m + 1)) = 1#32 <<< m := by
      rw [bit_eq]
      have h0 : (1#32 <<< (m + 1)).getLsbD 0 = false := by rw [BitVec.getLsbD_shiftLeft]; simp
      rw [h0]
      apply BitVec.eq_of_getLsbD_eq
      intro i hi
      simp only [Bool.false_eq_true, if_false, BitVec.xor_zero, BitVec.getLsbD_ushiftRight, BitVec.getLsbD_shiftLeft]
      rw [show 1 + i - (m + 1) = i - m by omega]
      by_cases hlt : i < m
      · simp [hlt, show 1 + i < m + 1 by omega]
      · by_cases h31 : i = 31
        · subst h31
          have : (1#32).getLsbD (31 - m) = false := by
            have : 31 - m ≠ 0 := by omega
            obtain ⟨q, hq⟩ := Nat.exists_eq_succ_of_ne_zero this
            rw [hq]; simp
          rw [this]; simp
        · simp [hlt, show ¬ 1 + i < m + 1 by omega, hi, show 1 + i < 32 by omega]
    rw [e]; exact ih (by omega)

theorem low_succ (pat : BitVec 32) (m : Nat) : low pat (m + 1) = low pat m ^^^ (if pat.getLsbD m then 1#32 <<< m else 0#32) := by
  apply BitVec.eq_of_getLsbD_eq
  intro i hi
  rw [BitVec.getLsbD_xor, low_bit _ _ _ hi, low_bit _ _ _ hi]
  by_cases hm : i = m
  · subst hm
    cases h : pat.getLsbD i
    · simp
    · simp [hi]
  · have hone : (if pat.getLsbD m then 1#32 <<< m else 0#32).getLsbD i = false := by
      cases pat.getLsbD m
      · simp
      · simp only [if_true, BitVec.getLsbD_shiftLeft]
        by_cases hlt : i < m
        · simp [hlt]
        · obtain ⟨q, hq⟩ := Nat.exists_eq_succ_of_ne_zero (show i - m ≠ 0 by omega)
          rw [hq]; simp
    rw [hone]
    have : decide (i < m + 1) = decide (i < m) := by
      by_cases h : i < m
      · simp [h]; omega
      · simp [h]; omega
    rw [this]; simp

/-- A burst: the bits of a pattern from a bit on. -/
def burst (pat : BitVec 32) (at_ : Nat) (k : Nat) : Bool := decide (at_ ≤ k) && pat.getLsbD (k - at_)

theorem run_before (pat : BitVec 32) (at_ n : Nat) (h : n ≤ at_) : run (burst pat at_) n 0#32 = 0#32 := by
  induction n with
  | zero => rfl
  | succ n ih =>
    show step (run (burst pat at_) n 0#32) (burst pat at_ n) = 0#32
    rw [ih (by omega)]
    have : burst pat at_ n = false := by unfold burst; simp [show ¬ at_ ≤ n by omega]
    rw [this]; decide

theorem run_burst (pat : BitVec 32) (at_ m : Nat) : run (burst pat at_) (at_ + m) 0#32 = bits m (low pat m) := by
  induction m with
  | zero =>
    rw [Nat.add_zero, run_before _ _ _ (Nat.le_refl _)]
    have : low pat 0 = 0#32 := by
      apply BitVec.eq_of_getLsbD_eq
      intro i hi
      rw [low_bit _ _ _ hi]; simp
    rw [this]; rfl
  | succ m ih =>
    show step (run (burst pat at_) (at_ + m) 0#32) (burst pat at_ (at_ + m)) = _
    have hb : burst pat at_ (at_ + m) = pat.getLsbD m := by unfold burst; simp
    rw [ih, hb, bits_succ, low_succ]
    unfold step
    congr 1
    rw [bits_xor]
    congr 1
    cases h : pat.getLsbD m
    · simp [bits_zero]
    · have hm : m < 32 := by
        by_cases hlt : m < 32
        · exact hlt
        · rw [BitVec.getLsbD_of_ge pat m (by omega)] at h; cases h
      simp [bits_one m hm]

/-- A BURST IS FOUND: two messages that are apart in just a burst whose first bit is turned, and stands within them, leave unlike registers. -/
theorem burst_found (x y : Nat → Bool) (n at_ : Nat) (pat c : BitVec 32) (h0 : pat.getLsbD 0 = true) (hat : at_ < n)
    (h : ∀ k, k < n → x k = (y k ^^ burst pat at_ k)) : run x n c ≠ run y n c := by
  intro e
  have hx := run_xor x y n c c
  rw [e, BitVec.xor_self, BitVec.xor_self] at hx
  have he : run (fun k => x k ^^ y k) n 0#32 = run (burst pat at_) n 0#32 := by
    apply run_congr
    intro k hk
    show (x k ^^ y k) = _
    rw [h k hk]
    cases y k <;> cases burst pat at_ k <;> rfl
  rw [he] at hx
  obtain ⟨m, rfl⟩ : ∃ m, n = at_ + (m + 1) := ⟨n - at_ - 1, by omega⟩
  rw [run_burst] at hx
  have hz := bits_inj _ _ hx.symm
  have hl := low_bit pat (m + 1) 0 (by decide)
  rw [hz, h0] at hl
  simp at hl

/-- The same, of bytes: their sums are unlike. -/
theorem sum_burst (xs ys : List UInt8) (hl : xs.length = ys.length) (at_ : Nat) (pat : BitVec 32) (h0 : pat.getLsbD 0 = true) (hat : at_ < 8 * ys.length)
    (h : ∀ k, k < 8 * ys.length → bitAt xs k = (bitAt ys k ^^ burst pat at_ k)) : sum xs ≠ sum ys := by
  intro e
  have e' : xs.foldl byte 0xffffffff#32 = ys.foldl byte 0xffffffff#32 := by
    have := congrArg (fun v => ~~~ v) e
    simpa [sum] using this
  rw [fold_bits, fold_bits, hl] at e'
  exact burst_found _ _ _ at_ pat _ h0 hat h e'

end Go.Proofs.Ytbagpckiegpalaa.Crc
