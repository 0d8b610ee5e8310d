/-
  quadrillelaw02.awake; quadrilleref02.Turn: their contracts.
-/
import Derived.Test.YtafpgglebjllbaaSum
namespace Go.Proofs.Ytafpgglebjllbaa
open Go.RowKit

def nines : List UInt8 := [49, 50, 51, 52, 53, 54, 55, 56, 57]
theorem sum_nines : Crc.sum nines = 3808858755#32 := by decide +kernel

/-- What n rounds have made of l. -/
def Turned (l l' : List UInt8) (pat : BitVec 32) (at_ n : Nat) : Prop :=
  l'.length = l.length ∧ ∀ k, k < 8 * l.length → Crc.bitAt l' k = (Crc.bitAt l k ^^ (decide (k < at_ + n) && Crc.burst pat at_ k))

theorem Turned.zero (l : List UInt8) (pat : BitVec 32) (at_ : Nat) : Turned l l pat at_ 0 := by
  refine ⟨rfl, fun k hk => ?_⟩
  unfold Crc.burst
  by_cases h : at_ ≤ k
  · simp [show ¬ k < at_ by omega]
  · simp [h]

def flip (x : UInt8) (r : Nat) : UInt8 := ⟨x.toBitVec ^^^ (1#8 <<< r)⟩

theorem flip_val (x : UInt8) (r : Nat) (hr : r < 8) : Go.bits .xor .u8 (x.toNat : Int) (2 ^ r % 256) = ((flip x r).toNat : Int) := by
  have h2 : (2 : Int) ^ r % 256 = (((1#8 <<< r).toNat : Nat) : Int) := by
    have : ∀ i : Fin 8, (2 : Int) ^ i.val % 256 = (((1#8 <<< i.val).toNat : Nat) : Int) := by decide
    exact this ⟨r, hr⟩
  rw [h2, u8_xor_nat _ _ x.toNat_lt (BitVec.isLt _)]
  rfl

theorem flip_bit (x : UInt8) (r i : Nat) (hr : r < 8) (hi : i < 8) : (flip x r).toBitVec.getLsbD i = (x.toBitVec.getLsbD i ^^ decide (i = r)) := by
  have h : (1#8 <<< r).getLsbD i = decide (i = r) := by
    have : ∀ (a b : Fin 8), (1#8 <<< a.val).getLsbD b.val = decide (b.val = a.val) := by decide
    exact this ⟨r, hr⟩ ⟨i, hi⟩
  show (x.toBitVec ^^^ (1#8 <<< r)).getLsbD i = _
  rw [BitVec.getLsbD_xor, h]

theorem bitAt_set (l : List UInt8) (m k : Nat) (hm : m / 8 < l.length) :
    Crc.bitAt (l.set (m / 8) (flip (l.getD (m / 8) 0) (m % 8))) k = (Crc.bitAt l k ^^ decide (k = m)) := by
  unfold Crc.bitAt
  by_cases h : k / 8 = m / 8
  · have hd : decide (k = m) = decide (k % 8 = m % 8) := by
      by_cases e : k = m
      · simp [e]
      · have : ¬ k % 8 = m % 8 := by omega
        simp [e, this]
    rw [h, hd, ← flip_bit _ _ _ (by omega) (by omega)]
    congr 2
    simp [hm]
  · have hne : ¬ k = m := fun e => h (by rw [e])
    have : (l.set (m / 8) (flip (l.getD (m / 8) 0) (m % 8))).getD (k / 8) 0 = l.getD (k / 8) 0 := by
      simp only [List.getD_eq_getElem?_getD]
      rw [List.getElem?_set_ne (fun e => h e.symm)]
    rw [this]
    simp [hne]

theorem Turned.skip {l l' : List UInt8} {pat : BitVec 32} {at_ n : Nat} (h : Turned l l' pat at_ n) (hn : ¬ (pat.getLsbD n = true ∧ at_ + n < 8 * l.length)) : Turned l l' pat at_ (n + 1) := by
  refine ⟨h.1, fun k hk => ?_⟩
  rw [h.2 k hk]
  congr 1
  by_cases e : k = at_ + n
  · subst e
    have hb : Crc.burst pat at_ (at_ + n) = pat.getLsbD n := by unfold Crc.burst; simp
    have : pat.getLsbD n = false := by
      cases hp : pat.getLsbD n
      · rfl
      · exact absurd ⟨hp, hk⟩ hn
    rw [hb, this]; simp
  · have : decide (k < at_ + (n + 1)) = decide (k < at_ + n) := by
      by_cases h : k < at_ + n
      · simp [h]; omega
      · simp [h]; omega
    rw [this]

theorem Turned.step {l l' : List UInt8} {pat : BitVec 32} {at_ n : Nat} (h : Turned l l' pat at_ n) (hp : pat.getLsbD n = true) (hlt : at_ + n < 8 * l.length) :
    Turned l (l'.set ((at_ + n) / 8) (flip (l'.getD ((at_ + n) / 8) 0) ((at_ + n) % 8))) pat at_ (n + 1) := by
  refine ⟨by rw [List.length_set]; exact h.1, fun k hk => ?_⟩
  rw [bitAt_set _ _ _ (by rw [h.1]; omega), h.2 k hk]
  by_cases e : k = at_ + n
  · subst e
    have hb : Crc.burst pat at_ (at_ + n) = pat.getLsbD n := by unfold Crc.burst; simp
    rw [hb, hp]; simp
  · have : decide (k < at_ + (n + 1)) = decide (k < at_ + n) := by
      by_cases h : k < at_ + n
      · simp [h]; omega
      · simp [h]; omega
    rw [this]
    simp [e]

theorem shr_odd (pat : BitVec 32) (n q : Nat) (hq : q = (pat >>> n).toNat) : pat.getLsbD n = decide (q % 2 = 1) := by
  have : (pat >>> n).getLsbD 0 = pat.getLsbD n := by rw [BitVec.getLsbD_ushiftRight]; simp
  rw [← this, hq]
  simp [BitVec.getLsbD, Nat.testBit_zero]

theorem shr_next (pat : BitVec 32) (n q : Nat) (hq : q = (pat >>> n).toNat) : (q : Int) / 2 = ((pat >>> (n + 1)).toNat : Int) := by
  have : (pat >>> (n + 1)).toNat = q / 2 := by
    rw [hq, BitVec.toNat_ushiftRight, BitVec.toNat_ushiftRight, Nat.shiftRight_succ]
  rw [this]; omega

set_option maxHeartbeats 400000 in
theorem turn_any (v : Value) (l : List UInt8) (at_ : Nat) (pat : BitVec 32) (w : World) (h : Rd w v l) (hpos : 0 < l.length) (hl : l.length ≤ 1000000) (hat : at_ ≤ 100000000) :
    Calls Try.prog 26 #[v, .int .i64 at_, .int .u32 (pat.toNat : Int)] w fun e w' => ∃ v' l', e = .returned v' ∧ Own w' w.heap.size v' l' ∧ l'.length = l.length ∧
      (∀ k, k < 8 * l.length → Crc.bitAt l' k = (Crc.bitAt l k ^^ Crc.burst pat at_ k)) ∧ Below w.heap.size w w' := by
  have h0 := h
  obtain ⟨a, cap, rfl, h1, h2, _⟩ := h
  unfold maxLen at h2
  go_enter Try.func26, Try.ntmps26
  go_wp2_with (at_builtin; refine app1 rfl (.tmp 10) (.tmp 11) rfl w.heap.size (.slice (some ⟨w.heap.size, 0, none⟩) 0 0) _ [] l l.length rfl rfl (Own.empty w _ (Nat.le_refl _)) (h0.alloc _) (by simp) hpos (by simp; omega) (by simp) ?_; intro g cp w1 hown hgrow hcp1 hcp2 hg)
  simp only [List.nil_append] at hown
  have hb1 : Below w.heap.size w w1 := (Own.empty w _ (Nat.le_refl _)).grown ((Below.refl _ _).alloc (Nat.le_refl _) _) hgrow (Nat.le_refl _) (by simp)
  clear hgrow h0
  go_loopw [2, 13] (fun p i wr => ∃ n : Nat, ∃ l' : List UInt8, n ≤ 32 ∧ i = .int .i64 n ∧ p = .int .u32 ((pat >>> n).toNat : Int) ∧ Own wr w.heap.size (.slice (some ⟨g, 0, none⟩) l.length cp) l' ∧ Turned l l' pat at_ n ∧ Below w.heap.size w wr) (fun _ i _ => 32 - (intOf i).toNat)
  case atStart => exact ⟨0, l, by omega, rfl, rfl, hown, Turned.zero _ _ _, hb1⟩
  case round =>
    obtain ⟨n, l', hn, rfl, rfl, hown', hT, hb⟩ := hrel
    have HT := hid hT
    clear hT hown hb1
    by_cases hlt : n < 32
    · obtain ⟨q, hq⟩ : ∃ q : Nat, q = (pat >>> n).toNat := ⟨_, rfl⟩
      have hq32 : q < 4294967296 := by rw [hq]; exact (pat >>> n).isLt
      rw [← hq]
      have HQ := hid hq
      clear hq
      by_cases hA : q % 2 = 1 ∧ at_ + n < 8 * l.length
      · obtain ⟨hA1, hA2⟩ := hA
        have hq1 : (((q : Int) % 2) == 1) = true := by simp; omega
        obtain ⟨x, hx⟩ : ∃ x, x = l'.getD ((at_ + n) / 8) 0 := ⟨_, rfl⟩
        have hcell : wr.cell? ⟨g, (at_ + n) / 8, none⟩ = some (.int .u8 (x.toNat : Int)) := by
          rw [hx]; exact hown'.cell _ (by rw [HT.out.1]; omega)
        have hfz : wr.frozen? ⟨g, (at_ + n) / 8, none⟩ = false := hown'.frozen _
        have HX := hid hx
        clear hx
        go_wp2
        refine ⟨⟨n + 1, _, by omega, by go_num, by rw [shr_next pat n q HQ.out], hown'.stored _ (flip x ((at_ + n) % 8)) _ (flip_val x _ (by omega)), ?_, hb.setCell (p := ⟨g, (at_ + n) / 8, none⟩) hg _⟩, by simp [intOf]; omega⟩
        rw [HX.out]
        exact HT.out.step (by rw [shr_odd pat n q HQ.out]; simpa using hA1) hA2
      · by_cases hA1 : q % 2 = 1
        · have hA2 : ¬ at_ + n < 8 * l.length := fun h => hA ⟨hA1, h⟩
          have hq1 : (((q : Int) % 2) == 1) = true := by simp; omega
          clear hA
          go_wp2
          refine ⟨⟨n + 1, l', by omega, by go_num, by rw [shr_next pat n q HQ.out], hown', HT.out.skip (fun h => hA2 h.2), hb⟩, by simp [intOf]; omega⟩
        · have hq1 : (((q : Int) % 2) == 1) = false := by simp; omega
          clear hA
          go_wp2
          refine ⟨⟨n + 1, l', by omega, by go_num, by rw [shr_next pat n q HQ.out], hown', HT.out.skip (fun h => hA1 (by have := h.1; rw [shr_odd pat n q HQ.out] at this; simpa using this)), hb⟩, by simp [intOf]; omega⟩
    · obtain rfl : n = 32 := by omega
      go_wp2
      go_ret
      refine ⟨_, l', rfl, hown', HT.out.1, fun k hk => ?_, hb⟩
      rw [HT.out.2 k hk]
      congr 1
      unfold Crc.burst
      by_cases h : k < at_ + 32
      · simp [h]
      · rw [BitVec.getLsbD_of_ge pat (k - at_) (by omega)]; simp

/-- The contract of Turn, with its numbers as they stand at the call. -/
theorem turn_at (v : Value) (l : List UInt8) (at_ : Nat) (pat : BitVec 32) (w : World) (z p : Int) (hz : z = (at_ : Int)) (hp : p = (pat.toNat : Int)) (h : Rd w v l) (hpos : 0 < l.length) (hl : l.length ≤ 1000000) (hat : at_ ≤ 100000000) :
    Calls Try.prog 26 #[v, .int .i64 z, .int .u32 p] w fun e w' => ∃ v' l', e = .returned v' ∧ Own w' w.heap.size v' l' ∧ l'.length = l.length ∧
      (∀ k, k < 8 * l.length → Crc.bitAt l' k = (Crc.bitAt l k ^^ Crc.burst pat at_ k)) ∧ Below w.heap.size w w' := by
  subst hz; subst hp
  exact turn_any v l at_ pat w h hpos hl hat

end Go.Proofs.Ytafpgglebjllbaa
