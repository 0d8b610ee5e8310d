/-
  Layer 10: an end behind things out of a slice of slices; answers that come late.
-/
import Derived.Test.YtjpojlkdogaalaaTalkP
import Derived.Test.YtjpojlkdogaalaaMat9
namespace Go.Proofs.Ytjpojlkdogaalaa
open Go.RowKit
set_option linter.unusedVariables false
set_option linter.unusedSimpArgs false

theorem IsMat.rows' {w : World} {a : Option Addr} {len cap : Nat} (h : IsMat w a len cap) (K : Nat) :
    ∃ ts : List (List UInt8), ts.length = len ∧ (∀ t ∈ ts, t.length ≤ K) ∧ ∀ r t, ts[r]? = some t → ∃ b off, a = some ⟨b, off, none⟩ ∧ b < w.heap.size ∧ MatRow w b off K r t := by
  by_cases h0 : len = 0
  · exact ⟨[], by rw [h0]; rfl, (fun t ht => by cases ht), fun r t hr => by cases hr⟩
  · obtain ⟨b, off, e, hb, ts, hl, ht⟩ := h.rows (by omega) K
    refine ⟨ts, hl, fun t hm => ?_, fun r t hr => ⟨b, off, e, hb, ht r t hr⟩⟩
    obtain ⟨r, hr⟩ := List.mem_iff_getElem?.1 hm
    obtain ⟨A, L, C, _, _, _, h4, _⟩ := ht r t hr
    rw [h4]
    exact Nat.min_le_right _ _

theorem matrow_at {w : World} {b off K r : Nat} {t : List UInt8} (h : MatRow w b off K r t) : ∃ (A : Option Addr) (L C : Nat), w.cell? ⟨b, off + r, none⟩ = some (.slice A L C) ∧ (if (K : Int) < (L : Int) then (K : Int) else (L : Int)) = (t.length : Int) ∧ (L : Int) ≤ (C : Int) ∧ (t.length : Int) ≤ (L : Int) ∧ (t.length : Int) ≤ (C : Int) ∧ C ≤ 9223372036854775807 ∧ Rd w (.slice A t.length C) t := by
  obtain ⟨A, L, C, h1, h2, h3, h4, h5⟩ := h
  refine ⟨A, L, C, h1, ?_, by omega, by omega, by omega, h3, by rw [h4]; exact h5⟩
  rw [h4]
  split <;> omega

/-- Behind the first j of ts said, d of them answered. -/
def tl (nd ep li : Int) (ts : List (List UInt8)) (j d : Nat) : Tk := ⟨nd, ep, li, (ts.take j).map fun t => ⟨t, 0⟩, d, 0, 0⟩

theorem tl_say (nd ep li : Int) (ts : List (List UInt8)) (j d : Nat) (t : List UInt8) (h : ts[j]? = some t) : (tl nd ep li ts j d).say t = tl nd ep li ts (j + 1) d := by
  have hj : j < ts.length := (List.getElem?_eq_some_iff.1 h).1
  have e : ts[j] = t := (List.getElem?_eq_some_iff.1 h).2
  unfold tl Tk.say
  congr 1
  show (ts.take j).map _ ++ [_] = _
  rw [List.take_succ_eq_append_getElem hj, List.map_append, e]
  rfl

theorem tl_all (nd ep li : Int) (ts : List (List UInt8)) (j d : Nat) (h : j ≤ ts.length) : (tl nd ep li ts j d).all.length = j := by
  simp only [tl, List.length_map, List.length_take]; omega

theorem tl_l (nd ep li : Int) (ts : List (List UInt8)) (j d : Nat) (h : j ≤ ts.length) : (tl nd ep li ts j d).l.length = j - d := by
  rw [Tk.l_len, tl_all _ _ _ _ _ _ h]; rfl

theorem tl_new (nd ep li : Int) (ts : List (List UInt8)) : Tk.new nd ep li = tl nd ep li ts 0 0 := by simp [tl, Tk.new]

/-- A plain answer. -/
def kl (nd ep li : Int) (k : Nat) : Pk := ⟨nd, ep, li, 0, k, false, []⟩

theorem tl_hear (nd ep li : Int) (ts : List (List UInt8)) (j d k : Nat) (h : j ≤ ts.length) (hk : k ≤ j) : (tl nd ep li ts j d).hear (kl nd ep li k) = tl nd ep li ts j (max d k) := by
  have hm : (tl nd ep li ts j d).mine (kl nd ep li k) = true := by
    unfold Tk.mine
    rw [tl_all _ _ _ _ _ _ h]
    simp [tl, kl, hk]
  unfold Tk.hear
  rw [if_neg (by rw [hm]; decide), if_neg (by simp [kl, tl])]
  rfl

theorem tl_heard (nd ep li : Int) (ts : List (List UInt8)) (j d : Nat) : (tl nd ep li ts j d).heard = 0 := rfl

/-- The cells of what reads as l. -/
theorem Rd.cellsAt {w : World} {a : Option Addr} {n c : Nat} {l : List UInt8} (h : Rd w (.slice a n c) l) (h0 : 0 < n) : ∃ b off, a = some ⟨b, off, none⟩ ∧ b < w.heap.size ∧ ∀ j, j < n → w.cell? ⟨b, off + j, none⟩ = some (bv (l.getD j 0)) := by
  have hh := h
  obtain ⟨a', c', e, _⟩ := hh
  simp only [Value.slice.injEq] at e
  obtain ⟨b, off, cap, e', _, _, hb, hc⟩ := h.pos (by omega)
  simp only [Value.slice.injEq] at e'
  exact ⟨b, off, e'.1, hb, fun j hj => hc j (by omega)⟩

end Go.Proofs.Ytjpojlkdogaalaa
