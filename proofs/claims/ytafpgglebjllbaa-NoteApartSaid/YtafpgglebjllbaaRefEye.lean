/-
  The document's eye: its calls, as what it answers and what it leaves: their contracts.
-/
import Derived.Test.YtafpgglebjllbaaEyeS
import Derived.Test.YtafpgglebjllbaaRefTake
namespace Go.Proofs.Ytafpgglebjllbaa
open Go.RowKit

/-- The document's eye at block b: s is left (none: it has failed). What it reads lies below base, or is empty. -/
def RefAt (w : World) (base b : Nat) (v : Value) (s : Option (List UInt8)) : Prop :=
  w.heap[b]? = some (.cells #[v, .bool s.isNone] 123 (0, 0)) ∧ Rd w v (s.getD []) ∧ (s.getD [] = [] ∨ ∀ k, v.ownBlock = some k → k < base) ∧ base ≤ b

def RefTo (w : World) (base b : Nat) (s : Option (List UInt8)) (w' : World) : Prop := ∃ v', RefAt w' base b v' s ∧ Keeps (fun k => k = b) w w'

theorem RefAt.lt {w : World} {base b : Nat} {v : Value} {s : Option (List UInt8)} (h : RefAt w base b v s) : b < w.heap.size := (Array.getElem?_eq_some_iff.1 h.1).1

theorem Rd.still {w w' : World} {v : Value} (h : Rd w v []) : Rd w' v [] := by
  obtain ⟨a, cap, rfl, h1, h2, h3, _⟩ := h
  exact ⟨a, cap, rfl, h1, h2, h3, fun _ _ j hj => by cases hj⟩

theorem RefAt.keeps {S : Nat → Prop} {w w' : World} {base b : Nat} {v : Value} {s : Option (List UInt8)} (h : RefAt w base b v s) (hk : Keeps S w w') (hn : ¬ S b) (hb : ∀ k, k < base → ¬ S k) : RefAt w' base b v s := by
  refine ⟨by rw [hk.block b h.lt hn]; exact h.1, ?_, h.2.2.1, h.2.2.2⟩
  have hr := h.2.1
  rcases h.2.2.1 with h1 | h1
  · rw [h1] at hr ⊢
    exact hr.still
  · exact hr.keeps hk (fun k hv => hb k (h1 k hv))

theorem RefAt.below {w w' : World} {base b : Nat} {v : Value} {s : Option (List UInt8)} (h : RefAt w base b v s) (hb : Below w.heap.size w w') : RefAt w' base b v s :=
  h.keeps (S := fun k => w.heap.size ≤ k) (Keeps.of_below hb (fun _ _ h => h)) (by have := h.lt; omega) (fun k hk => by have := h.lt; have := h.2.2.2; omega)

theorem RefAt.cell0 {w : World} {base b : Nat} {v : Value} {s : Option (List UInt8)} (h : RefAt w base b v s) : w.cell? ⟨b, 0, none⟩ = some v := by
  rw [cell_of_row _ _ _ _ _ _ h.1]; rfl
theorem RefAt.cell1 {w : World} {base b : Nat} {v : Value} {s : Option (List UInt8)} (h : RefAt w base b v s) : w.cell? ⟨b, 1, none⟩ = some (.bool s.isNone) := by
  rw [cell_of_row _ _ _ _ _ _ h.1]; rfl
theorem RefAt.frozen {w : World} {base b : Nat} {v : Value} {s : Option (List UInt8)} (h : RefAt w base b v s) (j : Nat) : w.frozen? ⟨b, j, none⟩ = false := by
  simp [World.frozen?, h.1]

/-- Both cells written. -/
theorem RefAt.put {w : World} {base b : Nat} {v V : Value} {s s' : Option (List UInt8)} (h : RefAt w base b v s) (hV : Rd w V (s'.getD [])) (hb : s'.getD [] = [] ∨ ∀ k, V.ownBlock = some k → k < base) :
    RefAt ((w.setCell ⟨b, 0, none⟩ V).setCell ⟨b, 1, none⟩ (.bool s'.isNone)) base b V s' ∧ Keeps (fun k => k = b) w ((w.setCell ⟨b, 0, none⟩ V).setCell ⟨b, 1, none⟩ (.bool s'.isNone)) := by
  have hk : Keeps (fun k => k = b) w ((w.setCell ⟨b, 0, none⟩ V).setCell ⟨b, 1, none⟩ (.bool s'.isNone)) := ((Keeps.refl (fun k => k = b) w).setCell (p := ⟨b, 0, none⟩) (fun _ => rfl) _).setCell (p := ⟨b, 1, none⟩) (fun _ => rfl) _
  refine ⟨⟨?_, ?_, hb, h.2.2.2⟩, hk⟩
  · simp only [World.setCell, Array.getElem?_modify, h.1]
    simp
  · rcases hb with h1 | h1
    · rw [h1] at hV ⊢
      exact hV.still
    · exact hV.keeps hk (fun k hv e => by have := h1 k hv; have := h.2.2.2; omega)

/-- What is read, moved on. -/
theorem RefAt.moved {w : World} {base b : Nat} {v V : Value} {r r' : List UInt8} (h : RefAt w base b v (some r)) (hV : Rd w V r') (hb : r' = [] ∨ ∀ k, V.ownBlock = some k → k < base) :
    RefAt (w.setCell ⟨b, 0, none⟩ V) base b V (some r') ∧ Keeps (fun k => k = b) w (w.setCell ⟨b, 0, none⟩ V) := by
  have hk : Keeps (fun k => k = b) w (w.setCell ⟨b, 0, none⟩ V) := (Keeps.refl (fun k => k = b) w).setCell (p := ⟨b, 0, none⟩) (fun _ => rfl) _
  refine ⟨⟨?_, ?_, hb, h.2.2.2⟩, hk⟩
  · simp only [World.setCell, Array.getElem?_modify, h.1]
    simp
  · show Rd _ V r'
    rcases hb with h1 | h1
    · rw [h1] at hV ⊢
      exact hV.still
    · exact hV.keeps hk (fun k hv e => by have := h1 k hv; have := h.2.2.2; omega)

theorem RefAt.drewN {w : World} {base b : Nat} {v : Value} {s : Option (List UInt8)} (h : RefAt w base b v s) (n : Nat) : RefAt (w.drewN n) base b v s := ⟨h.1, h.2.1.drewN n, h.2.2.1, h.2.2.2⟩

/-- The cells of what reads as l. -/
theorem Rd.cellsAt {w : World} {a : Option Addr} {n c : Nat} {l : List UInt8} (h : Rd w (.slice a n c) l) (h0 : 0 < n) : ∃ b off, a = some ⟨b, off, none⟩ ∧ b < w.heap.size ∧ ∀ j, j < n → w.cell? ⟨b, off + j, none⟩ = some (bv (l.getD j 0)) := by
  have hh := h
  obtain ⟨a', c', e, _⟩ := hh
  simp only [Value.slice.injEq] at e
  obtain ⟨b, off, cap, e', _, _, hb, hc⟩ := h.pos (by omega)
  simp only [Value.slice.injEq] at e'
  exact ⟨b, off, e'.1, hb, fun j hj => hc j (by omega)⟩

theorem take_any (v : Value) (l : List UInt8) (w : World) (h : Rd w v l) :
    Calls Try.prog 81 #[v] w fun e w' => Took w v l e ∧ Below w.heap.size w w' := by
  by_cases hl : 0 < l.length
  · obtain ⟨b, off, cap, rfl, h1, h2, _, hc⟩ := h.pos hl
    unfold maxLen at h2
    exact take_some b off cap l w h1 h2 hl hc
  · have : l = [] := List.eq_nil_of_length_eq_zero (by omega)
    subst this
    obtain ⟨a, cap, rfl, _⟩ := h
    have hfr : Ink.front [] = (0, 0) := by decide
    go_enter Try.func81, Try.ntmps81
    go_wp2
    refine wp_loop_rounds 1 ?_
    rw [rounds_succ]
    go_wp2
    go_ret3
    exact ⟨Took.no hfr, Below.refl _ _⟩

set_option maxHeartbeats 400000 in
theorem refeyenum_st (base b : Nat) (v : Value) (s : Option (List UInt8)) (w : World) (h : RefAt w base b v s) :
    Calls Try.prog 74 #[.pointer (some ⟨b, 0, none⟩)] w fun e w' => e = .returned (.int .u64 ((Ink.stNum s).1 : Int)) ∧ RefTo w base b (Ink.stNum s).2 w' := by
  have hc0 := h.cell0
  have hc1 := h.cell1
  have H := hid h
  cases s with
  | none =>
    simp only [Option.isNone_none] at hc1
    clear h hc0
    go_enter Try.func74, Try.ntmps74
    go_wp2
    go_ret
    exact ⟨rfl, v, H.out, Keeps.refl _ _⟩
  | some r =>
    simp only [Option.isNone_some] at hc1
    have htake := take_any v r w h.2.1
    have HT := hid htake
    clear h htake
    go_enter Try.func74, Try.ntmps74
    go_wp2_with fail
    refine HT.out.mono ?_
    rintro e w1 ⟨ht, hb1⟩
    have H1 := hid (H.out.below hb1)
    have hk1 : Keeps (fun k => k = b) w w1 := Keeps.of_below hb1 (fun i hi hs => by omega)
    clear hc0 hc1
    have hc0 := H1.out.cell0
    have hc1 := H1.out.cell1
    simp only [Option.isNone_some] at hc1
    have hz0 := H1.out.frozen 0
    have hz1 := H1.out.frozen 1
    rcases ht with ⟨h2, rfl⟩ | ⟨h2, v', rfl, hrd, hob⟩
    · have hs := hid (show Ink.stNum (some r) = (0, none) by simp only [Ink.stNum]; rw [if_pos h2])
      clear h2
      go_wp2
      go_ret
      rw [hs.out]
      have hp := H1.out.put (V := .slice none 0 0) (s' := none) (Rd.nil _) (.inl rfl)
      exact ⟨rfl, _, hp.1, hk1.trans hp.2⟩
    · have hs := hid (show Ink.stNum (some r) = ((Ink.front r).1, some (r.drop (Ink.front r).2)) by simp only [Ink.stNum]; rw [if_neg (by omega)])
      have hrd1 := hid (hrd.below hb1)
      have hob' := hid hob
      obtain ⟨va, vc, e, _⟩ := hrd
      obtain ⟨vn, hvn⟩ : ∃ vn, vn = (r.drop (Ink.front r).2).length := ⟨_, rfl⟩
      rw [← hvn] at e
      subst e
      clear h2 hob hvn
      go_wp2
      go_ret
      rw [hs.out]
      have hp := H1.out.put (V := .slice va vn vc) (s' := some (r.drop (Ink.front r).2)) hrd1.out (by
        rcases H.out.2.2.1 with h | h
        · left
          have : r = [] := h
          rw [this]
          simp
        · right
          rw [hob'.out]
          exact h)
      exact ⟨rfl, _, hp.1, hk1.trans hp.2⟩

theorem refend_st (base b : Nat) (v : Value) (s : Option (List UInt8)) (w : World) (h : RefAt w base b v s) :
    Calls Try.prog 76 #[.pointer (some ⟨b, 0, none⟩)] w fun e w' => e = .returned (.bool (decide (s = some []))) ∧ w = w' := by
  have hc0 := h.cell0
  have hc1 := h.cell1
  cases s with
  | none =>
    simp only [Option.isNone_none] at hc1
    clear h hc0
    go_enter Try.func76, Try.ntmps76
    go_wp2
    go_ret
    exact ⟨rfl, rfl⟩
  | some r =>
    simp only [Option.isNone_some] at hc1
    obtain ⟨a, cap, rfl, _⟩ := h.2.1
    simp only [Option.getD_some] at hc0
    clear h
    cases r with
    | nil =>
      go_enter Try.func76, Try.ntmps76
      go_wp2
      go_ret
      exact ⟨rfl, rfl⟩
    | cons x r =>
      obtain ⟨n, hn⟩ : ∃ n, n = (x :: r).length := ⟨_, rfl⟩
      have hn0 : ((n : Int) == 0) = false := by simp [hn]; omega
      rw [← hn] at hc0
      have hd : decide (some (x :: r) = some []) = false := by simp
      rw [hd]
      clear hn hd
      go_enter Try.func76, Try.ntmps76
      go_wp2
      go_ret
      exact ⟨rfl, rfl⟩

end Go.Proofs.Ytafpgglebjllbaa
