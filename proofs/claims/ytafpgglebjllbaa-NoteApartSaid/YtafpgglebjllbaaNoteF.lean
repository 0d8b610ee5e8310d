/-
  note's fields: how they are read, one behind the other: contracts.
-/
import Derived.Test.YtafpgglebjllbaaNoteD
import Derived.Test.YtafpgglebjllbaaEyeS
import Derived.Deep.RegionHeld3
import Derived.Laws.Tables
namespace Go.Proofs.Ytafpgglebjllbaa
open Go.RowKit
open Note (K St stepK run)

/-- The reader's memory: bf: the fields' block; be: the eye's. -/
def FldAt (w : World) (base bf be : Nat) (v : Value) (st : St) : Prop :=
  w.heap[bf]? = some (.cells #[.pointer (some ⟨be, 0, none⟩), .bool st.2] 86 (0, 0)) ∧ EyeSt w base be v st.1 ∧ bf ≠ be ∧ base ≤ bf ∧ v.ownBlock ≠ some bf

/-- What was read since st0, and how. -/
def FTr (w0 w : World) (base bf be : Nat) (st0 : St) (ks : List K) (ns : List Nat) : Prop :=
  ∃ v st, FldAt w base bf be v st ∧ run ks st0 = (ns, st) ∧ Keeps (fun k => k = bf ∨ k = be) w0 w ∧ ∀ k, v.ownBlock = some k → k + 1 < w0.heap.size

theorem FldAt.cell0 {w : World} {base bf be : Nat} {v : Value} {st : St} (h : FldAt w base bf be v st) : w.cell? ⟨bf, 0, none⟩ = some (.pointer (some ⟨be, 0, none⟩)) := by
  rw [cell_of_row _ _ _ _ _ _ h.1]; rfl
theorem FldAt.cell1 {w : World} {base bf be : Nat} {v : Value} {st : St} (h : FldAt w base bf be v st) : w.cell? ⟨bf, 1, none⟩ = some (.bool st.2) := by
  rw [cell_of_row _ _ _ _ _ _ h.1]; rfl
theorem FldAt.frozen {w : World} {base bf be : Nat} {v : Value} {st : St} (h : FldAt w base bf be v st) (j : Nat) : w.frozen? ⟨bf, j, none⟩ = false := by
  simp [World.frozen?, h.1]
theorem FTr.cell0 {w0 w : World} {base bf be : Nat} {st0 : St} {ks : List K} {ns : List Nat} (h : FTr w0 w base bf be st0 ks ns) : w.cell? ⟨bf, 0, none⟩ = some (.pointer (some ⟨be, 0, none⟩)) := by
  obtain ⟨v, st, h1, _⟩ := h
  exact h1.cell0

theorem FldAt.lt {w : World} {base bf be : Nat} {v : Value} {st : St} (h : FldAt w base bf be v st) : bf < w.heap.size := (Array.getElem?_eq_some_iff.1 h.1).1

/-- The eye has gone on. -/
theorem FldAt.eye {w w' : World} {base bf be : Nat} {v v' : Value} {s' : Option (List UInt8)} {s : Option (List UInt8)} {o : Bool} (h : FldAt w base bf be v (s, o)) (h1 : EyeSt w' base be v' s') (hk : Keeps (fun k => k = be) w w')
    (hv : ∀ k, v'.ownBlock = some k → v.ownBlock = some k) : FldAt w' base bf be v' (s', o) :=
  ⟨(hk.block bf h.lt h.2.2.1).trans h.1, h1, h.2.2.1, h.2.2.2.1, fun e => h.2.2.2.2 (hv bf e)⟩

theorem FTr.next {w0 w w' : World} {base bf be : Nat} {st0 st st' : St} {ks : List K} {ns : List Nat} {k : K} {n : Nat} {v' : Value} (hr : run ks st0 = (ns, st)) (hk0 : Keeps (fun k => k = bf ∨ k = be) w0 w)
    (hs : stepK k st = (n, st')) (h : FldAt w' base bf be v' st') (hk : Keeps (fun k => k = bf ∨ k = be) w w') (hv : ∀ k, v'.ownBlock = some k → k + 1 < w0.heap.size) : FTr w0 w' base bf be st0 (ks ++ [k]) (ns ++ [n]) :=
  ⟨v', st', h, Note.run_step hr hs, hk0.trans hk, hv⟩

theorem set_keeps0 (w : World) (b j : Nat) (V : Value) : Keeps (fun k => k = b) w (w.setCell ⟨b, j, none⟩ V) := (Keeps.refl (fun k => k = b) w).setCell (p := ⟨b, j, none⟩) (fun _ => rfl) _

/-- Nothing grows. -/
theorem stepK_le (k : K) (st : St) : (((stepK k st).2.1).getD []).length ≤ (st.1.getD []).length := by
  obtain ⟨s, o⟩ := st
  cases k with
  | up M =>
    simp only [stepK]
    have := Ink.stNum_le s
    split <;> exact this
  | int => exact stBelow_le _ s
  | bool => exact stBelow_le _ s

theorem run_le (ks : List K) : ∀ st : St, (((run ks st).2.1).getD []).length ≤ (st.1.getD []).length := by
  induction ks with
  | nil => intro st; exact Nat.le_refl _
  | cons k ks ih =>
    intro st
    simp only [run]
    exact Nat.le_trans (ih _) (stepK_le k st)

set_option maxHeartbeats 400000 in
theorem upto_tr (M : Nat) (z : Int) (hz : z = (M : Int)) (w0 w : World) (base bf be : Nat) (st0 : St) (ks : List K) (ns : List Nat) (h : FTr w0 w base bf be st0 ks ns) :
    Calls Try.prog 70 #[.pointer (some ⟨bf, 0, none⟩), .int .u64 z] w fun e w' => ∃ n : Nat, e = .returned (.int .u64 (n : Int)) ∧ n ≤ M ∧ FTr w0 w' base bf be st0 (ks ++ [.up M]) (ns ++ [n]) := by
  subst hz
  obtain ⟨v, ⟨s, o⟩, hf, hr, hk0, hv0⟩ := h
  have hc0 := hf.cell0
  have HNUM := hid (eyenum_st base be v s w hf.2.1)
  have HR := hid hr
  have HV := hid hv0
  clear hv0
  have HF := hid hf
  have HS := hid (show stepK (.up M) (s, o) = if M < (Ink.stNum s).1 then (0, ((Ink.stNum s).2, true)) else ((Ink.stNum s).1, ((Ink.stNum s).2, o)) from rfl)
  obtain ⟨n, s', hs⟩ : ∃ n s', Ink.stNum s = (n, s') := ⟨_, _, rfl⟩
  rw [hs] at HNUM HS
  clear hr hf hs
  by_cases c : M < n
  · go_enter Try.func70, Try.ntmps70
    go_wp2_with fail
    refine HNUM.out.mono ?_
    rintro e w1 ⟨rfl, v1, h1, hk1, hv1⟩
    have hf1 := HF.out.eye h1 hk1 hv1
    have hd0 := hf1.cell0
    have hd1 := hf1.cell1
    have hz1 := hf1.frozen 1
    have HF1 := hid hf1
    have cI : (M : Int) < (n : Int) := by omega
    clear hf1 h1
    go_wp2
    go_ret
    refine ⟨0, rfl, Nat.zero_le _, FTr.next HR.out hk0 (by rw [HS.out, if_pos c]) (v' := v1) ⟨?_, ?_, HF1.out.2.2.1, HF1.out.2.2.2.1, HF1.out.2.2.2.2⟩ ?_ ?_⟩
    · simp only [World.setCell, Array.getElem?_modify, HF1.out.1]
      simp
    · exact EyeAt.keeps (S := fun k => k = bf) HF1.out.2.1 (set_keeps0 w1 bf 1 _) (fun k hk e => by
        subst e
        rcases hk with hk | hk
        · exact HF1.out.2.2.1 hk
        · exact HF1.out.2.2.2.2 hk)
    · exact (hk1.mono (fun _ _ h => Or.inr h)).trans ((set_keeps0 w1 bf 1 _).mono (fun _ _ h => Or.inl h))
    · exact fun k hk => HV.out k (hv1 k hk)
  · go_enter Try.func70, Try.ntmps70
    go_wp2_with fail
    refine HNUM.out.mono ?_
    rintro e w1 ⟨rfl, v1, h1, hk1, hv1⟩
    have hf1 := hid (HF.out.eye h1 hk1 hv1)
    have cI : ¬ (M : Int) < (n : Int) := by omega
    clear h1
    go_wp2
    go_ret
    exact ⟨n, rfl, by omega, FTr.next HR.out hk0 (by rw [HS.out, if_neg c]) hf1.out (hk1.mono (fun _ _ h => Or.inr h)) (fun k hk => HV.out k (hv1 k hk))⟩

set_option maxHeartbeats 400000 in
theorem small_tr (w0 w : World) (base bf be : Nat) (st0 : St) (ks : List K) (ns : List Nat) (h : FTr w0 w base bf be st0 ks ns) :
    Calls Try.prog 39 #[.pointer (some ⟨bf, 0, none⟩)] w fun e w' => ∃ n : Nat, e = .returned (.int .u8 (n : Int)) ∧ n < 256 ∧ FTr w0 w' base bf be st0 (ks ++ [.up Note.M8]) (ns ++ [n]) := by
  have H := hid (upto_tr 255 255 rfl w0 w base bf be st0 ks ns h)
  clear h
  go_enter Try.func39, Try.ntmps39
  go_wp2_with fail
  refine H.out.mono ?_
  rintro e w1 ⟨n, rfl, hn, h1⟩
  go_wp2
  go_ret
  exact ⟨n, rfl, by omega, h1⟩

set_option maxHeartbeats 400000 in
theorem word_tr (w0 w : World) (base bf be : Nat) (st0 : St) (ks : List K) (ns : List Nat) (h : FTr w0 w base bf be st0 ks ns) :
    Calls Try.prog 40 #[.pointer (some ⟨bf, 0, none⟩)] w fun e w' => ∃ n : Nat, e = .returned (.int .u32 (n : Int)) ∧ n < 4294967296 ∧ FTr w0 w' base bf be st0 (ks ++ [.up Note.M32]) (ns ++ [n]) := by
  have H := hid (upto_tr 4294967295 4294967295 rfl w0 w base bf be st0 ks ns h)
  clear h
  go_enter Try.func40, Try.ntmps40
  go_wp2_with fail
  refine H.out.mono ?_
  rintro e w1 ⟨n, rfl, hn, h1⟩
  go_wp2
  go_ret
  exact ⟨n, rfl, by omega, h1⟩

theorem int_tr (w0 w : World) (base bf be : Nat) (st0 : St) (ks : List K) (ns : List Nat) (h : FTr w0 w base bf be st0 ks ns) :
    Calls Try.prog 41 #[.pointer (some ⟨be, 0, none⟩)] w fun e w' => ∃ n : Nat, e = .returned (.int .i64 (n : Int)) ∧ n < 2147483648 ∧ FTr w0 w' base bf be st0 (ks ++ [.int]) (ns ++ [n]) := by
  obtain ⟨v, ⟨s, o⟩, hf, hr, hk0, hv0⟩ := h
  refine (eyeint_st base be v s w hf.2.1).mono ?_
  rintro e w1 ⟨rfl, v1, h1, hk1, hv1⟩
  exact ⟨_, rfl, stBelow_lt 2147483648 (by omega) s, FTr.next hr hk0 rfl (hf.eye h1 hk1 hv1) (hk1.mono (fun _ _ h => Or.inr h)) (fun k hk => hv0 k (hv1 k hk))⟩

theorem bool_tr (w0 w : World) (base bf be : Nat) (st0 : St) (ks : List K) (ns : List Nat) (h : FTr w0 w base bf be st0 ks ns) :
    Calls Try.prog 47 #[.pointer (some ⟨be, 0, none⟩)] w fun e w' => ∃ p : Bool, e = .returned (.bool p) ∧ FTr w0 w' base bf be st0 (ks ++ [.bool]) (ns ++ [if p then 1 else 0]) := by
  obtain ⟨v, ⟨s, o⟩, hf, hr, hk0, hv0⟩ := h
  have hlt := stBelow_lt 2 (by omega) s
  refine (eyebool_st base be v s w hf.2.1).mono ?_
  rintro e w1 ⟨rfl, v1, h1, hk1, hv1⟩
  refine ⟨_, rfl, FTr.next hr hk0 (st' := ((Ink.stBelow 2 s).2, o)) ?_ (hf.eye h1 hk1 hv1) (hk1.mono (fun _ _ h => Or.inr h)) (fun k hk => hv0 k (hv1 k hk))⟩
  simp only [stepK, Prod.mk.injEq, and_true]
  obtain ⟨n, hn⟩ : ∃ n, n = (Ink.stBelow 2 s).1 := ⟨_, rfl⟩
  rw [← hn] at hlt ⊢
  have : n = 0 ∨ n = 1 := by omega
  rcases this with rfl | rfl <;> rfl

/-- What is there when all is read. -/
def FEnd (w0 w : World) (base bf be : Nat) (st0 : St) (ks : List K) (ns : List Nat) (b : Option (List UInt8)) : Prop :=
  ∃ v st1 st, FldAt w base bf be v st ∧ run ks st0 = (ns, st1) ∧ Note.last b.isSome st1 = (b, st) ∧ Keeps (fun k => k = bf ∨ k = be) w0 w ∧ ∀ k, v.ownBlock = some k → k + 1 < w0.heap.size

theorem text_tr (w0 w : World) (base bf be : Nat) (st0 : St) (ks : List K) (ns : List Nat) (h : FTr w0 w base bf be st0 ks ns) (hlen : ∀ r, st0.1 = some r → r.length ≤ 1000000) :
    Calls Try.prog 42 #[.pointer (some ⟨be, 0, none⟩)] w fun e w' => ∃ u b, e = .returned u ∧ Own w' w.heap.size u b ∧ FEnd w0 w' base bf be st0 ks ns (some b) := by
  obtain ⟨v, ⟨s, o⟩, hf, hr, hk0, hv0⟩ := h
  have hl : (s.getD []).length ≤ 1000000 := by
    have h1 := run_le ks st0
    rw [hr] at h1
    simp only at h1
    cases hs : st0.1 with
    | none => rw [hs] at h1; have h2 : (s.getD []).length ≤ 0 := h1; omega
    | some r => rw [hs] at h1; have := hlen r hs; have h2 : (s.getD []).length ≤ r.length := h1; omega
  refine (eyetext_st base be v s w hf.2.1 hl).mono ?_
  rintro e w1 ⟨u, rfl, hou, v1, h1, hk1, hv1⟩
  exact ⟨u, _, rfl, hou, v1, (s, o), _, hf.eye h1 hk1 hv1, hr, rfl, hk0.trans (hk1.mono (fun _ _ h => Or.inr h)), fun k hk => hv0 k (hv1 k hk)⟩

end Go.Proofs.Ytafpgglebjllbaa
