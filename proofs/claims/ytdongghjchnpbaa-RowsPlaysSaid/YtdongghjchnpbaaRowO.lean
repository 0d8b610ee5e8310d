/-
  Contracts: At, Up, New, Copy, goes, set.
-/
import Derived.Test.YtdongghjchnpbaaRowN
namespace Go.Proofs.Ytdongghjchnpbaa
open Go.RowKit
set_option linter.unusedVariables false

/-- The slice reads as these values, of one cell each. -/
def RdV (w : World) (v : Value) (xs : List Value) : Prop :=
  (v = .slice none 0 0 ∧ xs = []) ∨ ∃ b off cap, v = .slice (some ⟨b, off, none⟩) xs.length cap ∧ xs.length ≤ cap ∧ cap ≤ 9223372036854775807 ∧ b < w.heap.size ∧ ∀ j x, xs[j]? = some x → w.cell? ⟨b, off + j, none⟩ = some x

theorem RdV.nil (w : World) : RdV w (.slice none 0 0) [] := .inl ⟨rfl, rfl⟩

theorem RdV.len {w : World} {v : Value} {xs : List Value} (h : RdV w v xs) : ∃ a cap, v = .slice a xs.length cap ∧ xs.length ≤ cap ∧ cap ≤ 9223372036854775807 := by
  rcases h with ⟨rfl, rfl⟩ | ⟨b, off, cap, rfl, h1, h2, _⟩
  · exact ⟨none, 0, rfl, Nat.le_refl _, by omega⟩
  · exact ⟨_, cap, rfl, h1, h2⟩

theorem RdV.below {w w' : World} {v : Value} {xs : List Value} {B : Nat} (h : RdV w v xs) (hb : Below B w w') (hB : ∀ g, v.ownBlock = some g ∨ (∃ off n c, v = .slice (some ⟨g, off, none⟩) n c) → g < B) : RdV w' v xs := by
  rcases h with h | ⟨b, off, cap, rfl, h1, h2, h3, h4⟩
  · exact .inl h
  · have hlt := hB b (.inr ⟨_, _, _, rfl⟩)
    exact .inr ⟨b, off, cap, rfl, h1, h2, by have := hb.size; omega, fun j x hj => (hb.cell (p := ⟨b, off + j, none⟩) hlt).trans (h4 j x hj)⟩

theorem RdV.all {w w' : World} {v : Value} {xs : List Value} (h : RdV w v xs) (hb : Below w.heap.size w w') : RdV w' v xs := by
  rcases h with h | ⟨b, off, cap, rfl, h1, h2, h3, h4⟩
  · exact .inl h
  · exact .inr ⟨b, off, cap, rfl, h1, h2, by have := hb.size; omega, fun j x hj => (hb.cell (p := ⟨b, off + j, none⟩) h3).trans (h4 j x hj)⟩

theorem RdV.of_own {w : World} {base : Nat} {e : TypeId} {v : Value} {n : Nat} {xs : List Value} (h : w.ownsRow base e 1 v n xs) : RdV w v xs := by
  rcases h.2 with ⟨rfl, hn⟩ | ⟨g, cap, cur, rfl, hb, hg, h1, h2, h3, h4⟩
  · exact .inl ⟨rfl, List.eq_nil_of_length_eq_zero (by rw [h.1, hn])⟩
  · have hl : xs.length = n := by rw [h.1, Nat.mul_one]
    refine .inr ⟨g, 0, cap, by rw [hl], by omega, by unfold maxLen at h2; omega, (Array.getElem?_eq_some_iff.1 hg).1, fun j x hj => ?_⟩
    have := World.ownsRow.cells h (g := g) rfl j x hj
    rwa [Addr.add_lit] at this

/-- Where its elements lie isn't here. -/
def Off (v : Value) (b : Nat) : Prop := ∀ g off n c, v = .slice (some ⟨g, off, none⟩) n c → g ≠ b

theorem Off.of_own {w : World} {base b : Nat} {e : TypeId} {v : Value} {n : Nat} {xs : List Value} (h : w.ownsRow base e 1 v n xs) (hb : b < base) : Off v b := by
  rintro g off n' c rfl e'
  subst e'
  rcases h.2 with ⟨hv, _⟩ | ⟨g', cap, cur, hv, hb', _⟩
  · cases hv
  · simp only [Value.slice.injEq, Option.some.injEq, Addr.mk.injEq] at hv
    omega

def iv (n : Nat) : Value := .int .i64 (n : Int)
def uv (n : Nat) : Value := .int .u32 (n : Int)

/-- All cells that are told are that job's. -/
def setAll (w : World) (b off : Nat) (l : List Nat) (j : Nat) : World := l.foldl (fun w n => w.setCell ⟨b, off + n, none⟩ (.int .u32 (j : Nat))) w

theorem setAll_snoc (w : World) (b off : Nat) (l : List Nat) (n j : Nat) : setAll w b off (l ++ [n]) j = (setAll w b off l j).setCell ⟨b, off + n, none⟩ (.int .u32 (j : Nat)) := by
  simp [setAll]

theorem setAll_other (w : World) (b off : Nat) (l : List Nat) (j : Nat) : ∀ k, k ≠ b → (setAll w b off l j).heap[k]? = w.heap[k]? := by
  intro k hk
  unfold setAll
  induction l generalizing w with
  | nil => rfl
  | cons n l ih => rw [List.foldl_cons, ih]; exact Below.heap_setCell _ _ _ _ hk

theorem setAll_keeps (w : World) (b off : Nat) (l : List Nat) (j : Nat) : Keeps (fun k => k = b) w (setAll w b off l j) := by
  unfold setAll
  induction l generalizing w with
  | nil => exact Keeps.refl _ _
  | cons n l ih => rw [List.foldl_cons]; exact ((Keeps.refl (fun k => k = b) w).setCell (p := ⟨b, off + n, none⟩) (fun _ => rfl) _).trans (ih _)

/-- The block, behind that. -/
theorem setAll_block (w : World) (b off : Nat) (l : List Nat) (j : Nat) (cs : List Value) (t : TypeId) (fr : Nat × Nat) (hg : w.heap[b]? = some (.cells cs.toArray t fr)) :
    (setAll w b off l j).heap[b]? = some (.cells (l.foldl (fun cs n => cs.set (off + n) (.int .u32 (j : Nat))) cs).toArray t fr) := by
  unfold setAll
  induction l generalizing w cs with
  | nil => exact hg
  | cons n l ih =>
    rw [List.foldl_cons, List.foldl_cons]
    exact ih _ _ (heap_setCell_at _ _ _ _ _ _ _ hg)

theorem foldl_set_length (off : Nat) (v : Value) (l : List Nat) : ∀ cs : List Value, (l.foldl (fun cs n => cs.set (off + n) v) cs).length = cs.length := by
  induction l with
  | nil => intro cs; rfl
  | cons n l ih => intro cs; rw [List.foldl_cons, ih]; simp

theorem take_snoc' {α : Type} (l : List α) (k : Nat) (x : α) (h : l[k]? = some x) : l.take (k + 1) = l.take k ++ [x] := by
  obtain ⟨hlt, hx⟩ := List.getElem?_eq_some_iff.1 h
  rw [List.take_succ_eq_append_getElem hlt, hx]

set_option maxHeartbeats 1000000 in
theorem set_any (w : World) (b off : Nat) (cs : List Value) (t : TypeId) (v : Value) (l : List Nat) (j : Nat) (hg : w.heap[b]? = some (.cells cs.toArray t (0, 0))) (hsz : off + 16 ≤ cs.length) (hr : RdV w v (l.map iv)) (ho : Off v b) (hl : ∀ n ∈ l, n < 16) :
    Calls Try.prog 37 #[.pointer (some ⟨b, off, none⟩), v, .int .u32 (j : Nat)] w fun e w' => (∃ u, e = .returned u) ∧ w' = setAll w b off l j := by
  obtain ⟨ad, cap, rfl, hcl, hcm⟩ := hr.len
  rw [List.length_map] at hcl
  have HR := hid hr
  have HO := hid ho
  have HG := hid hg
  have HL := hid hl
  have HSZ := hid hsz
  clear hr ho hg hl hsz
  have hlm : l.length ≤ 9223372036854775807 := by omega
  rw [List.length_map]
  go_enter Try.func37, Try.ntmps37
  go_wp2
  go_loopw [10] (fun i wr => ∃ k : Nat, k ≤ l.length ∧ i = .int .i64 k ∧ wr = setAll w b off (l.take k) j) (fun i _ => l.length - (intOf i).toNat)
  case atStart => exact ⟨0, Nat.zero_le _, rfl, by simp [setAll]⟩
  case round =>
    obtain ⟨k, hk, rfl, hw⟩ := hrel
    have HW := hid hw
    clear hw
    by_cases hlt : k < l.length
    · obtain ⟨n, hn⟩ : ∃ n, l[k]? = some n := ⟨_, List.getElem?_eq_getElem hlt⟩
      have h16 := HL.out n (List.mem_of_getElem? hn)
      rcases HR.out with ⟨_, he⟩ | ⟨g, o, cap', e, h1, h2, h3, h4⟩
      · simp at he; subst he; simp at hlt
      · rw [List.length_map] at e
        simp only [Value.slice.injEq] at e
        obtain ⟨rfl, -, rfl⟩ := e
        have hne : g ≠ b := HO.out g o _ _ (by rw [List.length_map])
        have hcell : wr.cell? ⟨g, o + k, none⟩ = some (.int .i64 n) := by
          rw [HW.out, World.cell?_of_block (w := w) (setAll_other w b off _ j g hne)]
          exact h4 k (iv n) (by simp [hn])
        have hblk := setAll_block w b off (l.take k) j cs t (0, 0) HG.out
        rw [← HW.out] at hblk
        have hcb : ∃ z, wr.cell? ⟨b, off + n, none⟩ = some z := by
          rw [cell_of_row _ _ _ _ _ _ hblk, List.getElem?_toArray]
          exact ⟨_, List.getElem?_eq_getElem (by rw [foldl_set_length]; have := HSZ.out; omega)⟩
        obtain ⟨z, hz⟩ := hcb
        have hfz : wr.frozen? ⟨b, off + n, none⟩ = false := frozen_of_row _ _ _ _ _ hblk
        have HT := hid (take_snoc' l k n hn)
        have hni : (n : Int) < 16 := by omega
        clear h4 h1 h2 h3 hblk hn h16
        go_wp2
        go_roundw
        case rel => exact ⟨k + 1, hlt, by go_num, by rw [HT.out, setAll_snoc, ← HW.out]⟩
        case measure => simp [intOf]; omega
    · have e : k = l.length := by omega
      have HE := hid (show l.take k = l by rw [e]; exact List.take_length)
      have e2 : (k : Int) = (l.length : Int) := by omega
      go_wp2
      go_end0
      exact ⟨⟨_, rfl⟩, by rw [HW.out, HE.out]⟩

end Go.Proofs.Ytdongghjchnpbaa
