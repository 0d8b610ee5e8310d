/-
  The code's slab and the document's side by side.
-/
import Derived.Test.YtbchegbamcigkaaRefC5
import Derived.Test.YtbchegbamcigkaaRefN5
import Derived.Laws.BitsAllLaws
namespace Go.Proofs.Ytbchegbamcigkaa
open Go.RowKit

theorem xor1 (x : UInt8) : Go.bits .xor .u8 (x.toNat : Int) 1 = ((x ^^^ 1).toNat : Int) := by
  have := u8_xor_nat x.toNat 1 x.toNat_lt (by omega)
  rw [show (1 : Int) = ((1 : Nat) : Int) from rfl, this]
  rfl

theorem rd_old {w : World} {v : Value} {l : List UInt8} (h : Rd w v l) (hl : l ≠ []) (k : Nat) (hk : v.ownBlock = some k) : k < w.heap.size := by
  obtain ⟨b, off, cap, rfl, _, _, hb, _⟩ := h.pos (List.length_pos_iff.2 hl)
  simp [Value.ownBlock] at hk
  omega

theorem read_got (s : Sl) (hf : s.fits) (i : Int) : s.read i = s.got i := by
  unfold Sl.read Sl.got
  by_cases h1 : s.has i = false
  · rw [if_pos h1, if_pos h1]
  · rw [if_neg h1, if_neg h1]
    by_cases h2 : s.off = true
    · rw [if_pos h2, if_pos h2]
    · rw [if_neg h2, if_neg h2]
      have hb : 0 ≤ i ∧ i < (s.n : Int) := by simpa [Sl.has] using h1
      rw [hf i.toNat (by omega)]

theorem RefAt.keepsSlab {w w' : World} {base : Nat} {base2 : Bs} {b bn bd rb gd cd : Nat} {wv rv : Value} {s s2 : Sl} (h : SlabAt w base b bn bd wv s) (hr : RefAt w base2 rb gd cd rv s2) (hk : Keeps (SlabS b bn bd wv) w w') : RefAt w' base2 rb gd cd rv s2 := by
  obtain ⟨a, ⟨DV, hd⟩, ⟨PW, hp⟩, _⟩ := hr
  obtain ⟨cur, hg⟩ := owns_type hd.1 gd rfl
  refine RefAt.keeps (w := w) ⟨a, ⟨DV, hd⟩, ⟨PW, hp⟩, by assumption⟩ hk ?_ ?_ ?_ ?_
  · exact h.apart' a (by decide) (by decide) (by decide)
  · exact h.apart' hg (by decide) (by decide) (by decide)
  · intro k hk2
    obtain ⟨cur2, hc2⟩ := owns_type hp.1 k hk2
    exact h.apart' hc2 (by decide) (by decide) (by decide)
  · intro g cs _ hgs
    exact h.apart' hgs (by decide) (by decide) (by decide)

/-- A slab is kept by whatever writes blocks of other types alone. -/
theorem SlabAt.keepsOther {S : Nat → Prop} {w w' : World} {base b bn bd : Nat} {wv : Value} {s : Sl} (h : SlabAt w base b bn bd wv s) (hk : Keeps S w w') (hS : ∀ g cs t fr, S g → w.heap[g]? = some (.cells cs t fr) → t ≠ 101 ∧ t ≠ 103 ∧ t ≠ 105) : SlabAt w' base b bn bd wv s := by
  refine h.keeps hk (fun e => ?_) (fun e => ?_) (fun e => ?_) (fun k hk2 e => ?_)
  · exact (hS _ _ _ _ e h.1).1 rfl
  · exact (hS _ _ _ _ e h.2.1).2.1 rfl
  · exact (hS _ _ _ _ e h.2.2.1).2.1 rfl
  · obtain ⟨cur, hc⟩ := h.2.2.2.1.type k hk2
    exact (hS _ _ _ _ e hc).2.2 rfl

theorem SlabAt.keepsRef {w w' : World} {base : Nat} {base2 : Bs} {b bn bd rb gd cd : Nat} {wv rv : Value} {s s2 : Sl} (h : SlabAt w base b bn bd wv s) (hr : RefAt w base2 rb gd cd rv s2) (hk : Keeps (fun k => k = rb ∨ k = gd) w w') : SlabAt w' base b bn bd wv s := by
  obtain ⟨a, ⟨DV, hd⟩, _⟩ := hr
  obtain ⟨cur, hg⟩ := owns_type hd.1 gd rfl
  refine h.keepsOther hk (fun g cs t fr e hgs => ?_)
  rcases e with e | e
  · subst e
    rw [a] at hgs; simp only [Option.some.injEq, Obj.cells.injEq] at hgs
    obtain ⟨_, rfl, _⟩ := hgs
    decide
  · subst e
    rw [hg] at hgs; simp only [Option.some.injEq, Obj.cells.injEq] at hgs
    obtain ⟨_, rfl, _⟩ := hgs
    decide

/-- Bytes of the call's own are kept by both. -/
theorem Own.keepsSlab {w w' : World} {base base2 b bn bd : Nat} {wv v : Value} {s : Sl} {l : List UInt8} (h : SlabAt w base b bn bd wv s) (ho : Own w base2 v l) (hk : Keeps (SlabS b bn bd wv) w w') : Own w' base2 v l := by
  refine ho.keeps hk (fun k hk2 => ?_)
  obtain ⟨cur, hc⟩ := owns_type ho k hk2
  exact h.apart' hc (by decide) (by decide) (by decide)
theorem Own.keepsRef {w w' : World} {base : Bs} {base2 rb gd cd : Nat} {rv v : Value} {s2 : Sl} {l : List UInt8} (hr : RefAt w base rb gd cd rv s2) (ho : Own w base2 v l) (hk : Keeps (fun k => k = rb ∨ k = gd) w w') : Own w' base2 v l := by
  refine ho.keeps hk (fun k hk2 => ?_)
  obtain ⟨cur, hc⟩ := owns_type ho k hk2
  have := hr.apart.2.2.1 k cur hc
  rintro (e | e)
  · exact this.1 e
  · exact this.2.1 e

theorem RefAt.low {w : World} {base : Bs} {rb gd cd : Nat} {rv : Value} {s2 : Sl} (hr : RefAt w base rb gd cd rv s2) : base.n ≤ rb ∧ base.n ≤ gd ∧ base.n ≤ w.heap.size := by
  have := hr.apart
  have h2 := hr.2.2.2.1
  omega

theorem RefAt.keep {w w' : World} {base : Bs} {rb gd cd : Nat} {rv : Value} {s2 : Sl} (hr : RefAt w base rb gd cd rv s2) (hk : Keeps (fun k => k = rb ∨ k = gd) w w') : Below base.n w w' :=
  hk.below hr.low.2.2 (fun i e => by have := hr.low; rcases e with rfl | rfl <;> omega)

/-- Rows that were there lie where nothing newer lies. -/
theorem RefAt.avoid {w : World} {n rb gd cd : Nat} {rv v : Value} {s : Sl} (hr : RefAt w ⟨n, fun g => n ≤ g⟩ rb gd cd rv s) (hv : ∀ k, v.ownBlock = some k → w.heap.size ≤ k) : RefAt w ⟨n, fun g => n ≤ g ∧ v.ownBlock ≠ some g⟩ rb gd cd rv s := by
  have hrow : ∀ {u : Value} {m : List UInt8}, RowB w ⟨n, fun g => n ≤ g⟩ u m → RowB w ⟨n, fun g => n ≤ g ∧ v.ownBlock ≠ some g⟩ u m := by
    rintro u m ⟨h1, g, c, cs, rfl, hb, hg⟩
    exact ⟨h1, g, c, cs, rfl, ⟨hb, fun e => by have := hv g e; have := (Array.getElem?_eq_some_iff.1 hg).1; omega⟩, hg⟩
  obtain ⟨a, ⟨DV, hd⟩, ⟨PW, hp⟩, r⟩ := hr
  exact ⟨a, ⟨DV, hd.1, fun i hi => hrow (hd.2 i hi)⟩, ⟨PW, hp.1, hp.2.1, fun i hi => ⟨(hp.2.2 i hi).1, hrow (hp.2.2 i hi).2⟩⟩, r⟩

theorem RefAt.weak {w : World} {n rb gd cd : Nat} {P P' : Nat → Prop} {rv : Value} {s : Sl} (hr : RefAt w ⟨n, P⟩ rb gd cd rv s) (hv : ∀ g, P g → P' g) : RefAt w ⟨n, P'⟩ rb gd cd rv s := by
  have hrow : ∀ {u : Value} {m : List UInt8}, RowB w ⟨n, P⟩ u m → RowB w ⟨n, P'⟩ u m := by
    rintro u m ⟨h1, g, c, cs, rfl, hb, hg⟩
    exact ⟨h1, g, c, cs, rfl, hv g hb, hg⟩
  obtain ⟨a, ⟨DV, hd⟩, ⟨PW, hp⟩, r⟩ := hr
  exact ⟨a, ⟨DV, hd.1, fun i hi => hrow (hd.2 i hi)⟩, ⟨PW, hp.1, hp.2.1, fun i hi => ⟨(hp.2.2 i hi).1, hrow (hp.2.2 i hi).2⟩⟩, r⟩

/-- What writes v's own bytes alone keeps both slabs. -/
theorem RefAt.keepsOwn {w w' : World} {n rb gd cd b0 : Nat} {rv v : Value} {s : Sl} {l : List UInt8} (hr : RefAt w ⟨n, fun g => n ≤ g ∧ v.ownBlock ≠ some g⟩ rb gd cd rv s) (ho : Own w b0 v l) (hk : Keeps (fun j => v.ownBlock = some j) w w') : RefAt w' ⟨n, fun g => n ≤ g ∧ v.ownBlock ≠ some g⟩ rb gd cd rv s := by
  have ht := hr.apart.2.2.1
  refine hr.keeps hk (fun e => ?_) (fun e => ?_) (fun k hk2 e => ?_) (fun g cs hg _ e => hg.2 e)
  · obtain ⟨cur, hc⟩ := owns_type ho _ e
    exact (ht _ _ hc).1 rfl
  · obtain ⟨cur, hc⟩ := owns_type ho _ e
    exact (ht _ _ hc).2.1 rfl
  · obtain ⟨cur, hc⟩ := owns_type ho _ e
    exact (ht _ _ hc).2.2 hk2

theorem SlabAt.keepsOwn {w w' : World} {base b bn bd b0 : Nat} {wv v : Value} {s : Sl} {l : List UInt8} (h : SlabAt w base b bn bd wv s) (ho : Own w b0 v l) (hk : Keeps (fun j => v.ownBlock = some j) w w') : SlabAt w' base b bn bd wv s := by
  refine h.keepsOther hk (fun g cs t fr e hgs => ?_)
  obtain ⟨cur, hc⟩ := owns_type ho g e
  rw [hc] at hgs; simp only [Option.some.injEq, Obj.cells.injEq] at hgs
  obtain ⟨_, rfl, _⟩ := hgs
  decide

theorem RefAt.ne {w : World} {base : Bs} {rb gd cd : Nat} {rv : Value} {s : Sl} (hr : RefAt w base rb gd cd rv s) {g : Nat} {cs : Array Value} {t : TypeId} {fr : Nat × Nat} (hg : w.heap[g]? = some (.cells cs t fr)) (h1 : t ≠ 51) (h2 : t ≠ 31) : g ≠ rb ∧ g ≠ gd := by
  refine ⟨fun e => ?_, fun e => ?_⟩
  · subst e; have := hg.symm.trans hr.1; simp only [Option.some.injEq, Obj.cells.injEq] at this; exact h1 this.2.1
  · subst e
    obtain ⟨_, ⟨DV, hd⟩, _⟩ := hr
    obtain ⟨cur, hc⟩ := owns_type hd.1 g rfl
    have := hg.symm.trans hc; simp only [Option.some.injEq, Obj.cells.injEq] at this; exact h2 this.2.1

theorem RefAt.way_len {w : World} {base : Bs} {rb gd cd : Nat} {rv : Value} {s : Sl} (hr : RefAt w base rb gd cd rv s) : ∃ a c, rv = .slice a s.way.length c := by
  obtain ⟨_, _, ⟨PW, hp⟩, _⟩ := hr
  rcases hp.1.2 with ⟨rfl, hn⟩ | ⟨g, cap, cur, rfl, _⟩
  · exact ⟨none, 0, by rw [hn]⟩
  · exact ⟨_, _, rfl⟩

end Go.Proofs.Ytbchegbamcigkaa
