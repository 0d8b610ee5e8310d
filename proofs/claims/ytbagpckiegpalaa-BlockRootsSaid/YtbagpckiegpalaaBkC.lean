/-
  Layer 6: roots that take turns: what Store, a crash and Load make of two sectors. Plain.
-/
import Derived.Test.YtbagpckiegpalaaBkB
import Derived.Test.YtbagpckiegpalaaRts6
namespace Go.Proofs.Ytbagpckiegpalaa
open Go.RowKit
set_option linter.unusedVariables false
set_option linter.unusedSimpArgs false

theorem rootOf_blk (r : Rt) (h : r.area.toNat < 2) : rootOf r.blk.bytes (r.turn.toNat % 2) = some r := by
  have hs := said_bytes r.blk (by show 1 ≤ 104; omega) (by show (1 : UInt8) ≠ 0; decide)
  unfold rootOf
  rw [hs]
  have hr : r.blk.isRoot (r.turn.toNat % 2) = true := by
    show (decide ((1 : UInt8) = 1) && (decide (1 = 1) && (decide (r.area.toNat < 2) && decide (r.turn.toNat % 2 = r.turn.toNat % 2)))) = true
    simp [h]
  rw [if_pos ⟨rfl, hr⟩]
  rfl

theorem rootOf_some {p : List UInt8} {i : Nat} {r : Rt} (h : rootOf p i = some r) : (said p).1 = 0 ∧ (said p).2.data.length = 1 ∧ (said p).2.rt = r := by
  unfold rootOf at h
  split at h
  · rename_i hc
    obtain ⟨h1, h2⟩ := hc
    refine ⟨h1, ?_, Option.some.inj h⟩
    unfold Blk.isRoot at h2
    simp only [Bool.and_eq_true, decide_eq_true_eq] at h2
    exact h2.2.1
  · cases h

theorem stOf_two (s : Sl) (h : s.calm 2) : stOf s 2 = pickR (pickR none (rootOf (sect s.now 0) 0)) (rootOf (sect s.now 1) 1) := by
  have h0 := calm_read h 0 (by omega)
  have h1 := calm_read h 1 (by omega)
  show pickR (pickR none (rootOf (s.read ((0 : Nat) : Int)).1 0)) (rootOf (s.read ((1 : Nat) : Int)).1 1) = _
  rw [h0, h1]

theorem loadb_two (s : Sl) (h : s.calm 2) : s.loadb = outR (pickR (pickR none (rootOf (sect s.now 0) 0)) (rootOf (sect s.now 1) 1)) := by
  have h0 := calm_read h 0 (by omega)
  have h1 := calm_read h 1 (by omega)
  rw [show (((0 : Nat) : Int)) = 0 from rfl] at h0
  rw [show (((1 : Nat) : Int)) = 1 from rfl] at h1
  unfold Sl.loadb
  rw [if_neg (by rw [h0]; simp), if_neg (by rw [h1]; simp), stOf_two s h]

/-- Load, where the one sector has a root. -/
theorem load_pair (s : Sl) (h : s.calm 2) (k : Nat) (hk : k < 2) (last : Rt) (hl : rootOf (sect s.now k) k = some last) :
    ∃ now, s.loadb = (now, 0) ∧ (now = last ∨ rootOf (sect s.now (1 - k)) (1 - k) = some now) := by
  rw [loadb_two s h]
  obtain rfl | rfl : k = 0 ∨ k = 1 := by omega
  · rw [hl]
    cases h1 : rootOf (sect s.now 1) 1 with
    | none => exact ⟨last, rfl, .inl rfl⟩
    | some r =>
      by_cases hlt : last.turn.toNat < r.turn.toNat
      · exact ⟨r, by show outR (if last.turn.toNat < r.turn.toNat then some r else some last) = _; rw [if_pos hlt]; rfl, .inr (by simp)⟩
      · exact ⟨last, by show outR (if last.turn.toNat < r.turn.toNat then some r else some last) = _; rw [if_neg hlt]; rfl, .inl rfl⟩
  · rw [hl]
    cases h1 : rootOf (sect s.now 0) 0 with
    | none => exact ⟨last, rfl, .inl rfl⟩
    | some r =>
      by_cases hlt : r.turn.toNat < last.turn.toNat
      · exact ⟨last, by show outR (if r.turn.toNat < last.turn.toNat then some last else some r) = _; rw [if_pos hlt]; rfl, .inl rfl⟩
      · exact ⟨r, by show outR (if r.turn.toNat < last.turn.toNat then some last else some r) = _; rw [if_neg hlt]; rfl, .inr (by simp)⟩

theorem load_newest (s : Sl) (h : s.calm 2) (k : Nat) (hk : k < 2) (last : Rt) (hl : rootOf (sect s.now k) k = some last) (ho : ∀ r, rootOf (sect s.now (1 - k)) (1 - k) = some r → r.turn.toNat < last.turn.toNat) : s.loadb = (last, 0) := by
  rw [loadb_two s h]
  obtain rfl | rfl : k = 0 ∨ k = 1 := by omega
  · rw [hl]
    cases h1 : rootOf (sect s.now 1) 1 with
    | none => rfl
    | some r =>
      have := ho r h1
      show outR (if last.turn.toNat < r.turn.toNat then some r else some last) = _
      rw [if_neg (by omega)]; rfl
  · rw [hl]
    cases h1 : rootOf (sect s.now 0) 0 with
    | none => rfl
    | some r =>
      have := ho r h1
      show outR (if r.turn.toNat < last.turn.toNat then some last else some r) = _
      rw [if_pos this]; rfl

/-- Behind j roots that were stored. -/
structure RtInv (s : Sl) (last : Rt) (j : Nat) : Prop where
  calm : s.calm 2
  way : s.way = []
  steps : s.steps ≤ 2 * j
  last0 : 0 < j → rootOf (sect s.now (j % 2)) (j % 2) = some last
  turn : 0 < j → last.turn.toNat = j
  other : 0 < j → ∀ r, rootOf (sect s.now (1 - j % 2)) (1 - j % 2) = some r → r.turn.toNat < j
  first : j = 0 → ∀ k r, k < 2 → rootOf (sect s.now k) k = some r → False

theorem said_zeros : said (List.replicate 128 0) = (6, Blk.zero) := by unfold said; rw [if_pos rfl]
theorem rtInv_new : RtInv (Sl.new 2) Rt.zero 0 :=
  ⟨calm_new 2, rfl, Nat.zero_le _, fun h => absurd h (by omega), fun h => absurd h (by omega), fun h => absurd h (by omega), fun _ k r hk h => by
    have e : sect (Sl.new 2).now k = List.replicate 128 0 := by
      show ((List.replicate (2 * 128) (0 : UInt8)).drop (k * 128)).take 128 = _
      rw [List.drop_replicate, List.take_replicate, Nat.min_eq_left (by omega)]
    rw [e] at h
    have := (rootOf_some h).1
    rw [said_zeros] at this
    cases this⟩

theorem RtInv.load {s : Sl} {last : Rt} {j : Nat} (h : RtInv s last j) (hj : 0 < j) : s.loadb = (last, 0) :=
  load_newest s h.calm (j % 2) (by omega) last (h.last0 hj) (fun r hr => by rw [h.turn hj]; exact h.other hj r hr)

/-- What Put makes of it. -/
theorem put_root {s : Sl} (n : Nat) (ho : s.now.length = s.n * 128) (hn : s.n = 2) (hoff : s.off = false) (r : Rt) :
    s.putb ((r.turn.toNat % 2 : Nat) : Int) r.blk = ((s.put (r.turn.toNat % 2) r.blk.bytes).step, s.stepE) ∧ (∀ i, sect (s.put (r.turn.toNat % 2) r.blk.bytes).now i = if i = r.turn.toNat % 2 then r.blk.bytes else sect s.now i) := by
  have hl : r.blk.bytes.length = 128 := r.blk.bytes_length (by show 1 ≤ 110; omega)
  have hh : s.has ((r.turn.toNat % 2 : Nat) : Int) = true := by simp [Sl.has]; omega
  refine ⟨?_, fun i => put_sect s (r.turn.toNat % 2) i r.blk.bytes ho (by omega) hl⟩
  unfold Sl.putb
  rw [if_neg (by rw [hh]; simp), if_neg (by show ¬ 104 < 1; omega), if_neg (by show ¬ (1 : UInt8) = 0; decide)]
  unfold Sl.write
  rw [if_neg (by rw [hh]; simp), if_neg (by omega), if_neg (by rw [hoff]; simp), Int.toNat_natCast, pad_all _ hl]

theorem RtInv.store {s : Sl} {last : Rt} {j : Nat} (h : RtInv s last j) (ho : s.ok) (r : Rt) (ha : r.area.toNat < 2) (ht : r.turn.toNat = j + 1) : ∃ s', s.storeb r = (s', 0) ∧ RtInv s' r (j + 1) := by
  obtain ⟨c1, c2, c3⟩ := h.calm
  obtain ⟨e1, hs⟩ := put_root 2 ho.2.2.1 c1 c2 r
  have hE : s.stepE = 0 := by simp [Sl.stepE, c3]
  have hc1 := (calm_step (s := s.put (r.turn.toNat % 2) r.blk.bytes) (n := 2) ⟨c1, c2, c3⟩).1
  obtain ⟨ef, hcf⟩ := calm_flush hc1
  refine ⟨(s.put (r.turn.toNat % 2) r.blk.bytes).step.step.flush, ?_, ?_⟩
  · unfold Sl.storeb
    rw [if_neg (by omega), e1, hE, if_pos rfl]
    exact ef
  · have hnow : ∀ i, sect (s.put (r.turn.toNat % 2) r.blk.bytes).step.step.flush.now i = if i = r.turn.toNat % 2 then r.blk.bytes else sect s.now i := hs
    have hlast := rootOf_blk r ha
    refine ⟨hcf, rfl, ?_, fun _ => ?_, fun _ => ht, fun _ r' hr' => ?_, fun h0 => by omega⟩
    · have := h.steps
      show s.steps + 1 + 1 ≤ _
      omega
    · rw [hnow, ← ht, if_pos rfl]; exact hlast
    · rw [hnow, ← ht, if_neg (by omega)] at hr'
      by_cases hj : 0 < j
      · have e : 1 - r.turn.toNat % 2 = j % 2 := by omega
        rw [e, h.last0 hj] at hr'
        rw [← Option.some.inj hr', h.turn hj]
        omega
      · exact absurd hr' (fun hr'' => h.first (by omega) _ _ (by omega) hr'')

/-- Power that goes in it, and the crash. -/
theorem RtInv.tear {s : Sl} {last : Rt} {j : Nat} (h : RtInv s last j) (hj : 0 < j) (ho : s.ok) (n : Nat) (hn : n = 1 ∨ n = 2) (r : Rt) (ha : r.area.toNat < 2) (ht : r.turn.toNat = j + 1) :
    ∃ s', Sl.storeb { s with armed := n } r = (s', 13) ∧ s'.n = 2 ∧ (s'.ok → ∀ fates cut, (s'.crash fates cut).calm 2 ∧ sect (s'.crash fates cut).now (j % 2) = sect s.now (j % 2)) := by
  obtain ⟨c1, c2, c3⟩ := h.calm
  obtain ⟨e1, hs⟩ := put_root (s := { s with armed := n }) 2 ho.2.2.1 c1 c2 r
  have key : ∀ s' : Sl, s'.n = 2 → s'.now = (Sl.put { s with armed := n } (r.turn.toNat % 2) r.blk.bytes).now → s'.way = [(r.turn.toNat % 2, r.blk.bytes)] → s'.ok → ∀ fates cut, (s'.crash fates cut).calm 2 ∧ sect (s'.crash fates cut).now (j % 2) = sect s.now (j % 2) := by
    intro s' h1 h2 h3 h4 fates cut
    refine ⟨⟨h1, rfl, rfl⟩, ?_⟩
    rw [(crash_sect s' h4 fates cut (j % 2)).2, h3, if_neg (by simp; omega), h2, hs, if_neg (by omega)]
  have hw : (Sl.put { s with armed := n } (r.turn.toNat % 2) r.blk.bytes).way = [(r.turn.toNat % 2, r.blk.bytes)] := by
    show s.way ++ _ = _
    rw [h.way]; rfl
  rcases hn with rfl | rfl
  · refine ⟨(Sl.put { s with armed := 1 } (r.turn.toNat % 2) r.blk.bytes).step, ?_, c1, key _ c1 rfl hw⟩
    unfold Sl.storeb
    rw [if_neg (by omega), e1, if_neg (by show ¬ (if (1 : Nat) = 1 then (13 : Int) else 0) = 0; decide)]
    rfl
  · refine ⟨(Sl.put { s with armed := 2 } (r.turn.toNat % 2) r.blk.bytes).step.step, ?_, c1, key _ c1 rfl hw⟩
    unfold Sl.storeb
    rw [if_neg (by omega), e1, if_pos (by show (if (2 : Nat) = 1 then (13 : Int) else 0) = 0; decide)]
    unfold Sl.flushed
    rw [if_neg (by show ¬ (s.off || decide ((2 : Nat) = 1)) = true; rw [c2]; decide), if_pos (by show 2 - 1 = 1; rfl)]

end Go.Proofs.Ytbagpckiegpalaa
