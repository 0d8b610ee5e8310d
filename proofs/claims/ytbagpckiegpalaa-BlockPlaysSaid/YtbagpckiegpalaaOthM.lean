/-
  SlabOthers: what a crash leaves of each byte, plain.
-/
import Derived.Test.YtbagpckiegpalaaSlabP
namespace Go.Proofs.Ytbagpckiegpalaa
open Go.RowKit
set_option linter.unusedVariables false

/-- The power is on, and stays; so many sectors. -/
def Sl.calm (s : Sl) (n : Nat) : Prop := s.n = n ∧ s.off = false ∧ s.armed = 0

theorem calm_new (n : Nat) : (Sl.new n).calm n := ⟨rfl, rfl, rfl⟩

theorem calm_step {s : Sl} {n : Nat} (h : s.calm n) : s.step.calm n ∧ s.stepE = 0 := by
  obtain ⟨h1, h2, h3⟩ := h
  refine ⟨⟨h1, ?_, ?_⟩, ?_⟩
  · simp [Sl.step, h2, h3]
  · simp [Sl.step, h3]
  · simp [Sl.stepE, h3]

theorem calm_write {s : Sl} {n : Nat} (h : s.calm n) (i : Nat) (p : List UInt8) (hi : i < n) (hp : p.length ≤ 128) : s.write (i : Int) p = ((s.put i (pad p)).step, 0) ∧ (s.put i (pad p)).step.calm n := by
  obtain ⟨h1, h2, h3⟩ := h
  have hh : s.has (i : Int) = true := by simp [Sl.has]; omega
  refine ⟨?_, ?_⟩
  · unfold Sl.write
    rw [if_neg (by rw [hh]; simp), if_neg (by omega), if_neg (by rw [h2]; simp), Int.toNat_natCast]
    rw [show s.stepE = 0 by simp [Sl.stepE, h3]]
  · exact (calm_step (s := s.put i (pad p)) ⟨h1, h2, h3⟩).1

theorem calm_flush {s : Sl} {n : Nat} (h : s.calm n) : s.flushed = (s.step.flush, 0) ∧ s.step.flush.calm n := by
  obtain ⟨h1, h2, h3⟩ := h
  refine ⟨?_, ?_⟩
  · unfold Sl.flushed
    rw [if_neg (by rw [h2]; simp), if_neg (by omega)]
  · exact (calm_step (s := s) ⟨h1, h2, h3⟩).1

theorem calm_read {s : Sl} {n : Nat} (h : s.calm n) (i : Nat) (hi : i < n) : s.read (i : Int) = (sect s.now i, 0) := by
  obtain ⟨h1, h2, h3⟩ := h
  have hh : s.has (i : Int) = true := by simp [Sl.has]; omega
  unfold Sl.read
  rw [if_neg (by rw [hh]; simp), if_neg (by rw [h2]; simp), Int.toNat_natCast]

theorem calm_crash {s : Sl} {n : Nat} (h : s.calm n) (fates : List UInt8) (cut : Int) : (s.crash fates cut).calm n := ⟨h.1, rfl, rfl⟩

/-- Each sector, as done, as read, and as written, is one of those that are wanted. -/
def Within (s : Sl) (M : Nat → List (List UInt8)) : Prop :=
  (∀ j, j < s.n → sect s.done j ∈ M j) ∧ (∀ j, j < s.n → sect s.now j ∈ M j) ∧ (∀ x ∈ s.way, x.2 ∈ M x.1) ∧ ∀ j, ∀ q ∈ M j, q.length = 128

/-- One more is wanted at k. -/
def more (M : Nat → List (List UInt8)) (k : Nat) (q : List UInt8) : Nat → List (List UInt8) := fun j => if j = k then M j ++ [q] else M j

theorem more_sub (M : Nat → List (List UInt8)) (k : Nat) (q : List UInt8) (j : Nat) (x : List UInt8) (h : x ∈ M j) : x ∈ more M k q j := by
  unfold more
  split
  · exact List.mem_append_left _ h
  · exact h

theorem Within.write {s : Sl} {M : Nat → List (List UInt8)} (h : Within s M) (ho : s.ok) (k : Nat) (p : List UInt8) (hk : k < s.n) (hp : p.length ≤ 128) : Within (s.put k (pad p)).step (more M k (pad p)) := by
  obtain ⟨h1, h2, h3, h4⟩ := h
  have hq := pad_length p hp
  refine ⟨fun j hj => more_sub _ _ _ _ _ (h1 j hj), fun j hj => ?_, fun x hx => ?_, fun j q hq' => ?_⟩
  · show sect (s.put k (pad p)).now j ∈ _
    rw [put_sect s k j (pad p) ho.2.2.1 hk hq]
    split
    · rename_i e
      unfold more
      rw [if_pos e]
      exact List.mem_append_right _ (List.mem_singleton.2 rfl)
    · exact more_sub _ _ _ _ _ (h2 j hj)
  · rcases List.mem_append.1 (show x ∈ s.way ++ [(k, pad p)] from hx) with hx | hx
    · exact more_sub _ _ _ _ _ (h3 x hx)
    · simp only [List.mem_singleton] at hx
      subst hx
      unfold more
      rw [if_pos rfl]
      exact List.mem_append_right _ (List.mem_singleton.2 rfl)
  · unfold more at hq'
    split at hq'
    · rcases List.mem_append.1 hq' with h | h
      · exact h4 j q h
      · simp only [List.mem_singleton] at h
        subst h; exact hq
    · exact h4 j q hq'

theorem splice_byte (d c : List UInt8) (o x : Nat) (h : o + c.length ≤ d.length) : (splice d o c).getD x 0 = d.getD x 0 ∨ (o ≤ x ∧ x < o + c.length ∧ (splice d o c).getD x 0 = c.getD (x - o) 0) := by
  simp only [List.getD_eq_getElem?_getD]
  rw [splice_get d o c h x]
  by_cases h1 : x < o
  · rw [if_pos h1]; exact .inl rfl
  · rw [if_neg h1]
    by_cases h2 : x < o + c.length
    · rw [if_pos h2]; exact .inr ⟨by omega, h2, rfl⟩
    · rw [if_neg h2]; exact .inl rfl

theorem torn_byte (fates : List UInt8) (cut k : Nat) (q d : List UInt8) (hc : cut ≤ 128) (hq : q.length = 128) (hd : d.length = 128) (x : Nat) : (tornOne fates cut k q d).length = 128 ∧ ((tornOne fates cut k q d).getD x 0 = d.getD x 0 ∨ (tornOne fates cut k q d).getD x 0 = q.getD x 0) := by
  obtain ⟨k1, k2⟩ := kept_le (fateOf fates k) cut hc
  obtain ⟨f, hf⟩ : ∃ f, f = keptFrom (fateOf fates k) cut := ⟨_, rfl⟩
  obtain ⟨u, hu⟩ : ∃ u, u = keptUpto (fateOf fates k) cut := ⟨_, rfl⟩
  unfold tornOne
  rw [← hf, ← hu]
  rw [← hf, ← hu] at k1
  rw [← hu] at k2
  have hl : ((q.drop f).take (u - f)).length = u - f := by rw [List.length_take, List.length_drop]; omega
  refine ⟨by rw [splice_length _ _ _ (by rw [hl]; omega)]; exact hd, ?_⟩
  rcases splice_byte d ((q.drop f).take (u - f)) f x (by rw [hl]; omega) with h | ⟨h1, h2, h3⟩
  · exact .inl h
  · rw [hl] at h2
    refine .inr (h3.trans ?_)
    simp only [List.getD_eq_getElem?_getD]
    rw [List.getElem?_take, if_pos (by omega), List.getElem?_drop, show f + (x - f) = x by omega]

theorem tornUpto_byte (fates : List UInt8) (cut : Nat) (ws : List (Nat × List UInt8)) (j : Nat) (d : List UInt8) (hc : cut ≤ 128) (hd : d.length = 128) (hw : ∀ y ∈ ws, y.2.length = 128) (x : Nat) :
    ∀ k, k ≤ ws.length → (tornUpto fates cut ws j d k).length = 128 ∧ ((tornUpto fates cut ws j d k).getD x 0 = d.getD x 0 ∨ ∃ y ∈ ws, y.1 = j ∧ (tornUpto fates cut ws j d k).getD x 0 = y.2.getD x 0) := by
  intro k
  induction k with
  | zero => intro _; exact ⟨hd, .inl rfl⟩
  | succ k ih =>
    intro hk
    obtain ⟨i1, i2⟩ := ih (by omega)
    have hm := getD_mem ws k (0, []) (by omega)
    rw [tornUpto_succ]
    split
    · rename_i e
      obtain ⟨t1, t2⟩ := torn_byte fates cut k (ws.getD k (0, [])).2 _ hc (hw _ hm) i1 x
      refine ⟨t1, ?_⟩
      rcases t2 with t2 | t2
      · rw [t2]; exact i2
      · exact .inr ⟨_, hm, e.symm, t2⟩
    · exact ⟨i1, i2⟩

/-- Behind a crash each byte is of one that is wanted. -/
theorem Within.crash {s : Sl} {M : Nat → List (List UInt8)} (h : Within s M) (ho : s.ok) (fates : List UInt8) (cut : Int) (j x : Nat) (hj : j < s.n) : ∃ q ∈ M j, (sect (s.crash fates cut).now j).getD x 0 = q.getD x 0 := by
  obtain ⟨h1, h2, h3, h4⟩ := h
  rw [(crash_sect s ho fates cut j).2]
  split
  · rcases (tornUpto_byte fates (cutOf cut) s.way j (sect s.done j) (cutOf_le cut) (h4 j _ (h1 j hj)) (fun y hy => h4 y.1 y.2 (h3 y hy)) x s.way.length (Nat.le_refl _)).2 with e | ⟨y, hy, ey, e⟩
    · exact ⟨_, h1 j hj, e⟩
    · exact ⟨y.2, ey ▸ h3 y hy, e⟩
  · exact ⟨_, h2 j hj, rfl⟩

theorem sect_len (l : List UInt8) (n i : Nat) (hl : l.length = n * 128) (hi : i < n) : (sect l i).length = 128 := by
  unfold sect
  rw [List.length_take, List.length_drop, hl]
  have : (i + 1) * 128 ≤ n * 128 := Nat.mul_le_mul_right _ hi
  omega

/-- At the beginning, once all is flushed. -/
theorem within_first {s : Sl} (hf : s.fits) (ho : s.ok) (hw : s.way = []) : Within s (fun j => if j < s.n then [sect s.now j] else []) := by
  refine ⟨fun j hj => ?_, fun j hj => ?_, (fun x hx => by rw [hw] at hx; cases hx), fun j q hq => ?_⟩
  · simp only [if_pos hj, List.mem_singleton]
    have := hf j hj
    rw [hw] at this
    exact this.symm
  · simp only [if_pos hj, List.mem_singleton]
  · simp only at hq
    split at hq
    · simp only [List.mem_singleton] at hq
      subst hq
      exact sect_len _ s.n _ ho.2.2.1 (by assumption)
    · cases hq

end Go.Proofs.Ytbagpckiegpalaa
