/-
  Layer 6: what is put is got; rows of sectors that were read.
-/
import Derived.Test.YtbagpckiegpalaaBlkV
import Derived.Test.YtbagpckiegpalaaOthH
import Derived.Test.YtbagpckiegpalaaMat9
namespace Go.Proofs.Ytbagpckiegpalaa
open Go.RowKit
set_option linter.unusedVariables false
set_option linter.unusedSimpArgs false

theorem num_at4 (x : BitVec 32) (r : List UInt8) : Knot.num (Knot.le32 x ++ r) 4 = x := by
  rw [Knot.num_congr _ (Knot.le32 x) 4 (fun j hj => by
    simp only [List.getD_eq_getElem?_getD]
    rw [List.getElem?_append_left (by unfold Knot.le32; simpa using hj)]), Knot.num_le32]

theorem blkOf_bytes (B : Blk) (h : B.data.length ≤ 110) : blkOf B.bytes = B := by
  obtain ⟨kd, ep, x, y, dt⟩ := B
  dsimp only at h
  have hl : (UInt8.ofNat dt.length).toNat = dt.length := by simp; omega
  obtain ⟨S, hS⟩ : ∃ S, S = Knot.le32 (Crc.sum (Blk.front ⟨kd, ep, x, y, dt⟩)) := ⟨_, rfl⟩
  have e : Blk.bytes ⟨kd, ep, x, y, dt⟩ = kd :: UInt8.ofNat dt.length :: (Knot.le32 ep ++ (Knot.le32 x ++ (Knot.le32 y ++ (dt ++ (List.replicate (110 - dt.length) 0 ++ S))))) := by
    unfold Blk.bytes
    rw [← hS]
    unfold Blk.front
    simp
  have d2 : (Blk.bytes ⟨kd, ep, x, y, dt⟩).drop 2 = Knot.le32 ep ++ (Knot.le32 x ++ (Knot.le32 y ++ (dt ++ (List.replicate (110 - dt.length) 0 ++ S)))) := by rw [e]; rfl
  have d6 : (Blk.bytes ⟨kd, ep, x, y, dt⟩).drop 6 = Knot.le32 x ++ (Knot.le32 y ++ (dt ++ (List.replicate (110 - dt.length) 0 ++ S))) := by rw [e]; rfl
  have d10 : (Blk.bytes ⟨kd, ep, x, y, dt⟩).drop 10 = Knot.le32 y ++ (dt ++ (List.replicate (110 - dt.length) 0 ++ S)) := by rw [e]; rfl
  have d14 : (Blk.bytes ⟨kd, ep, x, y, dt⟩).drop 14 = dt ++ (List.replicate (110 - dt.length) 0 ++ S) := by rw [e]; rfl
  have g0 : (Blk.bytes ⟨kd, ep, x, y, dt⟩).getD 0 0 = kd := by rw [e]; rfl
  have g1 : (Blk.bytes ⟨kd, ep, x, y, dt⟩).getD 1 0 = UInt8.ofNat dt.length := by rw [e]; rfl
  unfold blkOf
  rw [d2, d6, d10, d14, g0, g1, num_at4, num_at4, num_at4, hl, List.take_left' rfl]

theorem said_bytes (B : Blk) (h : B.data.length ≤ 104) (hk : B.kind ≠ 0) : said B.bytes = (0, B) := by
  have hb := blkOf_bytes B (by omega)
  have h0 : B.bytes.getD 0 0 = B.kind := rfl
  have h1 : B.bytes.getD 1 0 = UInt8.ofNat B.data.length := rfl
  have hl : (UInt8.ofNat B.data.length).toNat = B.data.length := by simp; omega
  unfold said
  rw [if_neg (fun e => hk (by rw [← h0, e]; rfl)), if_neg (by rw [bytes_sum B (by omega)]; simp), if_neg (by
    rw [h0, h1, hl]
    rintro (h | h)
    · exact hk h
    · omega), hb, if_neg (by simp)]

/-- What Put makes of a slab whose power is on. -/
theorem putb_calm {s : Sl} {n : Nat} (h : s.calm n) (ho : s.ok) (k : Nat) (hk : k < n) (B : Blk) :
    (s.putb (k : Int) B).1.calm n ∧ (∀ i, i ≠ k → sect (s.putb (k : Int) B).1.now i = sect s.now i) ∧ ((s.putb (k : Int) B).2 ≠ 0 → sect (s.putb (k : Int) B).1.now k = sect s.now k) ∧ ((s.putb (k : Int) B).2 = 0 → (s.putb (k : Int) B).1.getb (k : Int) = (0, B)) := by
  have hh : s.has (k : Int) = true := by have := h.1; simp [Sl.has]; omega
  unfold Sl.putb
  rw [if_neg (by rw [hh]; simp)]
  by_cases h1 : 104 < B.data.length
  · rw [if_pos h1]
    exact ⟨h, fun _ _ => rfl, fun _ => rfl, fun e => by cases e⟩
  · rw [if_neg h1]
    by_cases h2 : B.kind = 0
    · rw [if_pos h2]
      exact ⟨h, fun _ _ => rfl, fun _ => rfl, fun e => by cases e⟩
    · rw [if_neg h2]
      have hl := B.bytes_length (by omega)
      obtain ⟨e1, c1⟩ := calm_write h k B.bytes hk (by omega)
      have hs := fun i => put_sect s k i (pad B.bytes) ho.2.2.1 (by rw [h.1]; exact hk) (pad_length B.bytes (by omega))
      rw [e1]
      refine ⟨c1, fun i hi => ?_, fun e => absurd rfl e, fun _ => ?_⟩
      · exact (hs i).trans (if_neg hi)
      · unfold Sl.getb
        rw [calm_read c1 k hk, if_pos rfl]
        have e2 : sect (s.put k (pad B.bytes)).step.now k = B.bytes := by
          refine ((hs k).trans (if_pos rfl)).trans ?_
          exact pad_all _ hl
        show said (sect (s.put k (pad B.bytes)).step.now k) = _
        rw [e2]
        exact said_bytes B (by omega) h2

/-- The first j sectors. -/
def secs (s : Sl) (j : Nat) : List (List UInt8) := (List.range j).map fun k => sect s.now k
theorem secs_len (s : Sl) (j : Nat) : (secs s j).length = j := by simp [secs]
theorem secs_succ (s : Sl) (j : Nat) : secs s (j + 1) = secs s j ++ [sect s.now j] := by simp [secs, List.range_succ]
theorem secs_get (s : Sl) (j i : Nat) (h : i < j) : (secs s j)[i]? = some (sect s.now i) := by simp [secs, h]

theorem matrow_at {w : World} {b off K r : Nat} {t : List UInt8} (h : MatRow w b off K r t) : ∃ (A : Option Addr) (L C : Nat), w.cell? ⟨b, off + r, none⟩ = some (.slice A L C) ∧ (if (K : Int) < (L : Int) then (K : Int) else (L : Int)) = (t.length : Int) ∧ t.length ≤ L ∧ L ≤ C ∧ C ≤ 9223372036854775807 ∧ t.length ≤ K ∧ Rd w (.slice A t.length C) t := by
  obtain ⟨A, L, C, h1, h2, h3, h4, h5⟩ := h
  refine ⟨A, L, C, h1, ?_, by omega, h2, h3, by omega, by rw [h4]; exact h5⟩
  rw [h4]
  split <;> omega

theorem rowX_read {w w' : World} {b bn bd : Nat} {v : Value} {l : List UInt8} (h : ReadAns w w' v l 0) (h1 : b < w.heap.size) (h2 : bn < w.heap.size) (h3 : bd < w.heap.size) : RowX w' b bn bd v l ∧ ∃ g, v = .slice (some ⟨g, 0, none⟩) 128 128 := by
  have hr := h.rd
  rcases h with ⟨e, _⟩ | ⟨_, hl, g, rfl, hg, hge, _⟩
  · exact absurd rfl e
  · exact ⟨⟨hr, hl, g, 128, _, _, rfl, hg, .inr rfl, by omega, by omega, by omega⟩, g, rfl⟩

theorem infoBS6 : (Try.prog.info? 32).map (fun i => (i.zero, i.size, i.bytes)) = some (some (.slice none 0 0), 1, 24) := by kernel_rfl

theorem slab_kt {ts : List TypeId} {b0 : Nat} {w w' : World} {base b bn bd : Nat} {wv : Value} {s : Sl} (h : SlabAt w base b bn bd wv s) (hk : KT ts b0 w w') (h1 : 86 ∉ ts) (h2 : 98 ∉ ts) (h3 : 100 ∉ ts) : SlabAt w' base b bn bd wv s := by
  have ne : ∀ {g : Nat} {cs : Array Value} {t : TypeId}, w.heap[g]? = some (.cells cs t (0, 0)) → t ∉ ts → ¬ ∃ cs t fr, w.heap[g]? = some (.cells cs t fr) ∧ t ∈ ts := fun e ht ⟨cs', t', fr', e', h'⟩ => by
    rw [e] at e'
    simp only [Option.some.injEq, Obj.cells.injEq] at e'
    exact ht (e'.2.1 ▸ h')
  exact h.keeps hk.keeps (ne h.1 h1) (ne h.2.1 h2) (ne h.2.2.1 h2) fun k hv => by
    obtain ⟨cur, hc⟩ := owns_ty h.2.2.2.1 k hv
    exact ne hc h3

theorem own_grown {w w' : World} {base : Nat} {e : TypeId} {size : Nat} {v : Value} {n : Nat} {xs : List Value} (h : w.ownsRow base e size v n xs) (hg : w.grownBy w' v.ownBlock) (hb : base ≤ w.heap.size) : KT [e] base w w' := by
  refine KT.of_keeps (Keeps.of_grown hg) (fun k _ hk => ?_) hb
  obtain ⟨cur, hc⟩ := owns_ty h k hk
  exact ⟨(World.ownsRow.lt h k hk).1, _, _, _, hc, by simp⟩

/-- Rows that are known are kept by what writes no such block. -/
theorem RowsX.below {w w' : World} {b bn bd : Nat} {VV : List Value} {L : List (List UInt8)} (h : RowsX w b bn bd VV L) (hb : Below w.heap.size w w') : RowsX w' b bn bd VV L :=
  ⟨h.1, fun r q hq => by
    obtain ⟨v, hv, hr⟩ := h.2 r q hq
    exact ⟨v, hv, hr.keeps (S := fun k => w.heap.size ≤ k) (Keeps.of_below hb fun i _ h => h) (fun g cs t e _ _ _ _ => by have := (Array.getElem?_eq_some_iff.1 e).1; omega)⟩⟩
theorem RowsX.kt {ts : List TypeId} {b0 : Nat} {w w' : World} {b bn bd : Nat} {VV : List Value} {L : List (List UInt8)} (h : RowsX w b bn bd VV L) (hk : KT ts b0 w w') (h1 : 5 ∉ ts) (h2 : 98 ∉ ts) : RowsX w' b bn bd VV L :=
  ⟨h.1, fun r q hq => by
    obtain ⟨v, hv, hr⟩ := h.2 r q hq
    refine ⟨v, hv, hr.keeps hk.keeps (fun g cs t e ht _ _ _ => ?_)⟩
    rintro ⟨cs', t', fr', e', h'⟩
    rw [e] at e'
    simp only [Option.some.injEq, Obj.cells.injEq] at e'
    rw [← e'.2.1] at h'
    rcases ht with rfl | rfl
    · exact h1 h'
    · exact h2 h'⟩
theorem RowsX.slab {w w' : World} {base b bn bd : Nat} {VV : List Value} {L : List (List UInt8)} {wv : Value} {s : Sl} (h : RowsX w b bn bd VV L) (hs : SlabAt w base b bn bd wv s) (hk : Keeps (SlabS b bn bd wv) w w') : RowsX w' b bn bd VV L :=
  ⟨h.1, fun r q hq => by
    obtain ⟨v, hv, hr⟩ := h.2 r q hq
    exact ⟨v, hv, hr.keeps hk (fun g cs t e ht n1 n2 n3 => hs.apart e n1 n2 n3 (by rcases ht with rfl | rfl <;> decide))⟩⟩

/-- One more row, appended. -/
theorem was_push {w w9 : World} {base b bn bd : Nat} {wv : Value} {s : Sl} {qa ad9 : Option Addr} {j qc cp9 g : Nat} {VV : List Value} {L : List (List UInt8)} {q : List UInt8} (H : SlabAt w base b bn bd wv s) (ho : w.ownsRow base 32 1 (.slice qa j qc) j VV) (hx : RowsX w b bn bd VV L) (hr : RowX w b bn bd (.slice (some ⟨g, 0, none⟩) 128 128) q)
    (hg : (w.alloc (.cells #[.slice (some ⟨g, 0, none⟩) 128 128] 32)).grownBy w9 (Value.slice qa j qc).ownBlock) :
    SlabAt w9 base b bn bd wv s ∧ RowsX w9 b bn bd (VV ++ [.slice (some ⟨g, 0, none⟩) 128 128]) (L ++ [q]) ∧ Below base w w9 := by
  have hb : Below w.heap.size w (w.alloc (.cells #[.slice (some ⟨g, 0, none⟩) 128 128] 32)) := (Below.refl _ _).alloc (Nat.le_refl _) _
  have hsz := H.size.2.2.2
  have hk := own_grown (owns_below ho hb) hg (Nat.le_trans hsz hb.size)
  have hkb : KT [32] base w w9 := (KT.of_below hb hsz).trans hk
  refine ⟨slab_kt H hkb (by decide) (by decide) (by decide), ?_, hkb.below⟩
  exact (RowsX.push hx hr).kt hkb (by decide) (by decide)

end Go.Proofs.Ytbagpckiegpalaa
