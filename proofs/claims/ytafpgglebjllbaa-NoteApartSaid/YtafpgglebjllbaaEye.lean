/-
  An eye's memory; Read, Num, Left, End, fail: their contracts.
-/
import Derived.Test.YtafpgglebjllbaaPen2
import Derived.Test.YtafpgglebjllbaaFront
namespace Go.Proofs.Ytafpgglebjllbaa
open Go.RowKit

/-- AN EYE at block b: what is left to be read, r, is what v reads as; has it failed? -/
def EyeAt (w : World) (base b : Nat) (v : Value) (r : List UInt8) (failed : Bool) : Prop :=
  w.heap[b]? = some (.cells #[v, .bool failed] 118 (0, 0)) ∧ Rd w v r ∧ (∀ k, v.ownBlock = some k → k ≠ b ∧ base ≤ k ∧ k < w.heap.size) ∧ base ≤ b

def eyeS (b : Nat) (v : Value) (k : Nat) : Prop := k = b ∨ v.ownBlock = some k

theorem EyeAt.lt {w : World} {base b : Nat} {v : Value} {r : List UInt8} {f : Bool} (h : EyeAt w base b v r f) : b < w.heap.size := (Array.getElem?_eq_some_iff.1 h.1).1

theorem EyeAt.keeps {S : Nat → Prop} {w w' : World} {base b : Nat} {v : Value} {r : List UInt8} {f : Bool} (h : EyeAt w base b v r f) (hk : Keeps S w w') (hn : ∀ k, eyeS b v k → ¬ S k) : EyeAt w' base b v r f :=
  ⟨by rw [hk.block b h.lt (hn b (.inl rfl))]; exact h.1, h.2.1.keeps hk (fun k hv => hn k (.inr hv)), fun k hv => ⟨(h.2.2.1 k hv).1, (h.2.2.1 k hv).2.1, Nat.lt_of_lt_of_le (h.2.2.1 k hv).2.2 hk.size⟩, h.2.2.2⟩

theorem EyeAt.below {w w' : World} {base b : Nat} {v : Value} {r : List UInt8} {f : Bool} (h : EyeAt w base b v r f) (hb : Below w.heap.size w w') : EyeAt w' base b v r f :=
  h.keeps (S := fun k => w.heap.size ≤ k) (Keeps.of_below hb (fun _ _ h => h)) (fun k hk hs => by
    rcases hk with rfl | hk
    · have := h.lt; omega
    · have := (h.2.2.1 k hk).2.2; omega)

theorem EyeAt.cell0 {w : World} {base b : Nat} {v : Value} {r : List UInt8} {f : Bool} (h : EyeAt w base b v r f) : w.cell? ⟨b, 0, none⟩ = some v := by
  rw [cell_of_row _ _ _ _ _ _ h.1]; rfl
theorem EyeAt.cell1 {w : World} {base b : Nat} {v : Value} {r : List UInt8} {f : Bool} (h : EyeAt w base b v r f) : w.cell? ⟨b, 1, none⟩ = some (.bool f) := by
  rw [cell_of_row _ _ _ _ _ _ h.1]; rfl
theorem EyeAt.frozen {w : World} {base b : Nat} {v : Value} {r : List UInt8} {f : Bool} (h : EyeAt w base b v r f) (j : Nat) : w.frozen? ⟨b, j, none⟩ = false := by
  simp [World.frozen?, h.1]

/-- An eye that goes on in what it reads. -/
theorem EyeAt.moved {w : World} {base b : Nat} {v V : Value} {r r' : List UInt8} {f : Bool} (h : EyeAt w base b v r f) (hV : Rd w V r') (ho : V.ownBlock = v.ownBlock) :
    EyeAt (w.setCell ⟨b, 0, none⟩ V) base b V r' f ∧ Keeps (fun k => k = b) w (w.setCell ⟨b, 0, none⟩ V) := by
  have hk : Keeps (fun k => k = b) w (w.setCell ⟨b, 0, none⟩ V) := (Keeps.refl (fun k => k = b) w).setCell (p := ⟨b, 0, none⟩) (fun _ => rfl) _
  refine ⟨⟨?_, hV.keeps hk (fun k hk' e => ?_), fun k hk' => ?_, h.2.2.2⟩, hk⟩
  · simp only [World.setCell, Array.getElem?_modify, h.1]
    simp
  · rw [ho] at hk'
    exact (h.2.2.1 k hk').1 e
  · rw [ho] at hk'
    have := h.2.2.1 k hk'
    exact ⟨this.1, this.2.1, Nat.lt_of_lt_of_le this.2.2 hk.size⟩

set_option maxHeartbeats 400000 in
theorem read_any (v : Value) (l : List UInt8) (w : World) (h : Rd w v l) (hl : l.length ≤ 1000000) :
    Calls Try.prog 67 #[v] w fun e w' => ∃ b v', e = .returned (.pointer (some ⟨b, 0, none⟩)) ∧ EyeAt w' w.heap.size b v' l false ∧ Below w.heap.size w w' := by
  go_enter Try.func67, Try.ntmps67
  go_wp2_with fail
  refine (clone_any v l w h (by omega)).mono ?_
  rintro e w1 ⟨v1, rfl, ho, hb⟩
  have hlt := ho.lt
  obtain ⟨a, n, cap, rfl⟩ : ∃ a n cap, v1 = .slice a n cap := by
    obtain ⟨a, cap, e, _⟩ := ho.rd
    exact ⟨a, _, cap, e⟩
  go_wp2
  go_ret
  refine ⟨_, .slice a n cap, rfl, ⟨heap_alloc_new w1 _, ho.rd.alloc _, fun k hk => ?_, hb.size⟩, hb.alloc hb.size _⟩
  have := hlt k hk
  simp
  omega

/-- What is left of an eye that has failed. -/
def Failed (w : World) (base b : Nat) (w' : World) : Prop := EyeAt w' base b (.slice none 0 0) [] true ∧ Keeps (fun k => k = b) w w'

set_option maxHeartbeats 400000 in
theorem fail_any (base b : Nat) (v : Value) (r : List UInt8) (f : Bool) (w : World) (h : EyeAt w base b v r f) :
    Calls Try.prog 72 #[.pointer (some ⟨b, 0, none⟩)] w fun e w' => e = .returned (.tuple #[]) ∧ Failed w base b w' := by
  have hc0 := h.cell0
  have hc1 := h.cell1
  have hf0 := h.frozen 0
  have hf1 := h.frozen 1
  have HP := hid h
  clear h
  go_enter Try.func72, Try.ntmps72
  go_wp2
  go_end0
  refine ⟨rfl, ⟨?_, Rd.nil _, fun k hk => by simp [Value.ownBlock] at hk, HP.out.2.2.2⟩, ?_⟩
  · simp only [World.setCell, Array.getElem?_modify, HP.out.1]
    simp
  · exact ((Keeps.refl (fun k => k = b) w).setCell (p := ⟨b, 1, none⟩) (fun _ => rfl) _).setCell (p := ⟨b, 0, none⟩) (fun _ => rfl) _

set_option maxHeartbeats 400000 in
theorem end_bad (base b : Nat) (v : Value) (r : List UInt8) (f : Bool) (w : World) (h : EyeAt w base b v r f) (hb : f = true ∨ r ≠ []) :
    Calls Try.prog 69 #[.pointer (some ⟨b, 0, none⟩)] w fun e w' => e = .returned (.int .i64 4) ∧ w = w' := by
  have hc0 := h.cell0
  have hc1 := h.cell1
  obtain ⟨a, cap, rfl, _⟩ := h.2.1
  clear h
  cases f
  · have hr : 0 < (r.length : Int) := by
      rcases hb with hb | hb
      · cases hb
      · rcases Nat.eq_zero_or_pos r.length with h | h
        · exact absurd (List.eq_nil_of_length_eq_zero h) hb
        · omega
    clear hb
    go_enter Try.func69, Try.ntmps69
    go_wp2
    go_ret
    exact ⟨rfl, rfl⟩
  · clear hb
    go_enter Try.func69, Try.ntmps69
    go_wp2
    go_ret
    exact ⟨rfl, rfl⟩

set_option maxHeartbeats 400000 in
theorem end_good (base b : Nat) (v : Value) (w : World) (h : EyeAt w base b v [] false) :
    Calls Try.prog 69 #[.pointer (some ⟨b, 0, none⟩)] w fun e w' => e = .returned (.int .i64 0) ∧ w = w' := by
  have hc0 := h.cell0
  have hc1 := h.cell1
  obtain ⟨a, cap, rfl, _⟩ := h.2.1
  clear h
  go_enter Try.func69, Try.ntmps69
  go_wp2
  go_ret
  exact ⟨rfl, rfl⟩

set_option maxHeartbeats 400000 in
theorem eyenum_failed (base b : Nat) (v : Value) (r : List UInt8) (w : World) (h : EyeAt w base b v r true) :
    Calls Try.prog 68 #[.pointer (some ⟨b, 0, none⟩)] w fun e w' => e = .returned (.int .u64 0) ∧ w = w' := by
  have hc1 := h.cell1
  clear h
  go_enter Try.func68, Try.ntmps68
  go_wp2
  go_ret
  exact ⟨rfl, rfl⟩

set_option maxHeartbeats 400000 in
theorem eyenum_none (base b : Nat) (v : Value) (r : List UInt8) (w : World) (h : EyeAt w base b v r false) (hf : Ink.front r = (0, 0)) :
    Calls Try.prog 68 #[.pointer (some ⟨b, 0, none⟩)] w fun e w' => e = .returned (.int .u64 0) ∧ Failed w base b w' := by
  have hc0 := h.cell0
  have hc1 := h.cell1
  have hfr := front_any v r w h.2.1
  rw [hf] at hfr
  have HF := hid hfr
  have HP := hid h
  clear h hfr
  go_enter Try.func68, Try.ntmps68
  go_wp2_with fail
  refine HF.out.mono ?_
  rintro e w' ⟨rfl, rfl⟩
  go_wp2_with fail
  refine (fail_any base b v r false w HP.out).mono ?_
  rintro e w' ⟨rfl, hfl⟩
  go_wp2
  go_ret
  exact ⟨rfl, hfl⟩

set_option maxHeartbeats 400000 in
theorem eyenum_some (base b : Nat) (v : Value) (r : List UInt8) (n s : Nat) (w : World) (h : EyeAt w base b v r false) (hf : Ink.front r = (n, s)) (hs0 : 0 < s) (hs1 : s ≤ r.length) :
    Calls Try.prog 68 #[.pointer (some ⟨b, 0, none⟩)] w fun e w' => e = .returned (.int .u64 n) ∧ ∃ v', EyeAt w' base b v' (r.drop s) false ∧ Keeps (fun k => k = b) w w' ∧ v'.ownBlock = v.ownBlock := by
  have hc0 := h.cell0
  have hc1 := h.cell1
  have hz0 := h.frozen 0
  have hfr := front_any v r w h.2.1
  rw [hf] at hfr
  have HF := hid hfr
  have HP := hid h
  obtain ⟨vb, off, cap, rfl, h1, h2, h3, hc⟩ := h.2.1.pos (by omega)
  unfold maxLen at h2
  have HC := hid hc
  clear h hfr hf hc
  by_cases hcs : cap = s
  · subst hcs
    go_enter Try.func68, Try.ntmps68
    go_wp2_with fail
    refine HF.out.mono ?_
    rintro e w' ⟨rfl, rfl⟩
    go_wp2
    go_ret
    have hV : ∀ o c, c = cap - cap → Rd w (.slice (some ⟨vb, o, none⟩) (r.length - cap) c) (r.drop cap) := by
      intro o c hc
      have e0 : r.length - cap = 0 := by omega
      rw [List.drop_eq_nil_of_le (by omega), e0]
      exact ⟨_, _, rfl, by simp, by unfold maxLen; omega, (fun h => by cases h), fun _ _ j hj => by cases hj⟩
    have hV0 : Rd w (.slice (some ⟨vb, off, none⟩) 0 0) (r.drop cap) := by
      have := hV off 0 (by omega)
      rwa [show r.length - cap = 0 by omega] at this
    first
      | (have hm := HP.out.moved hV0 rfl; exact ⟨rfl, _, hm.1, hm.2, rfl⟩)
      | (have hm := HP.out.moved (hV off 0 (by omega)) rfl; exact ⟨rfl, _, hm.1, hm.2, rfl⟩)
  · go_enter Try.func68, Try.ntmps68
    go_wp2_with fail
    refine HF.out.mono ?_
    rintro e w' ⟨rfl, rfl⟩
    go_wp2
    go_ret
    have hV : Rd w (.slice (some ⟨vb, off + s, none⟩) (r.length - s) (cap - s)) (r.drop s) := by
      have := Rd.part h1 (by omega) HC.out s (r.length - s) (off + s) (cap - s) (by omega) rfl rfl
      rwa [List.take_of_length_le (by simp)] at this
    have hm := HP.out.moved hV rfl
    exact ⟨rfl, _, hm.1, hm.2, rfl⟩

end Go.Proofs.Ytafpgglebjllbaa
