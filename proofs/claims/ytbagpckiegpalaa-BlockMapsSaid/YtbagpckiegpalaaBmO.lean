/-
  Layer 6: what the law of maps asks: its row of bools, the places in their order.
-/
import Derived.Test.YtbagpckiegpalaaBmN
import Derived.Test.YtbagpckiegpalaaAwake6
import Derived.DataShut
namespace Go.Proofs.Ytbagpckiegpalaa
open Go.RowKit
set_option linter.unusedVariables false
set_option linter.unusedSimpArgs false

theorem firstsR_take {F : List (Int × Int)} {lo hi : Int} {n : Nat} (h : RunsFrom lo F hi) (hn : (n : Int) ≤ runSum F) : ∀ t, t ≤ n → firstsR F t = (firstsR F n).take t := by
  induction n with
  | zero => intro t ht; obtain rfl : t = 0 := by omega
            rw [(takeR_zero h).2]; rfl
  | succ n ih =>
    intro t ht
    obtain ⟨f, u, R, hR, _⟩ := takeR_head (k := n) h (by omega)
    have hs := (takeR_one h hR).2
    have hl : (firstsR F n).length = n := firstsR_len h (by omega)
    rcases Nat.lt_or_ge t (n + 1) with hlt | hge
    · rw [ih (by omega) t (by omega), hs, List.take_append_of_le_length (by omega)]
    · obtain rfl : t = n + 1 := by omega
      rw [List.take_of_length_le (by rw [hs, List.length_append, hl]; simp)]

/-- The place that is told next: the least that is free. -/
theorem firsts_next {F : List (Int × Int)} {N n t : Nat} (h : RunsFrom 0 F N) (hn : (n : Int) ≤ runSum F) (ht : t < n) :
    ∃ p : Nat, p < N ∧ (firstsR F n)[t]? = some (p : Int) ∧ FreeIn (takeR F t) (p : Int) ∧ (∀ q : Nat, q < p → ¬ FreeIn (takeR F t) (q : Int)) ∧ ∀ z, FreeIn (takeR F (t + 1)) z ↔ FreeIn (takeR F t) z ∧ z ≠ (p : Int) := by
  obtain ⟨f, u, R, hR, h1, h2, h3⟩ := takeR_head (k := t) h (by omega)
  have hs := (takeR_one h hR).2
  have hl : (firstsR F t).length = t := firstsR_len h (by omega)
  have hr := (takeR_runs (n := t) h (by omega)).1
  obtain ⟨p, rfl⟩ : ∃ p : Nat, f = (p : Int) := ⟨f.toNat, by omega⟩
  refine ⟨p, by omega, ?_, by rw [hR]; exact .inl ⟨Int.le_refl _, h1⟩, ?_, ?_⟩
  · have e := firstsR_take h hn (t + 1) (by omega)
    rw [hs] at e
    have : ((firstsR F n).take (t + 1))[t]? = some (p : Int) := by
      rw [← e, List.getElem?_append_right (by omega), hl, Nat.sub_self]
      rfl
    rw [List.getElem?_take, if_pos (by omega)] at this
    exact this
  · intro q hq hh
    rw [hR] at hh hr
    obtain ⟨k1, k2, k3, k4⟩ := hr
    rcases hh with hh | hh
    · omega
    · have := hh.ge k4; omega
  · intro z
    rw [(takeR_runs (n := t + 1) h (by omega)).2.1 z, (takeR_runs (n := t) h (by omega)).2.1 z, hs, List.mem_append, List.mem_singleton]
    constructor
    · rintro ⟨a, b⟩; exact ⟨⟨a, fun hh => b (.inl hh)⟩, fun hh => b (.inr hh)⟩
    · rintro ⟨⟨a, b⟩, c⟩; exact ⟨a, fun hh => hh.elim b c⟩

/-- The law's own row: which places are taken. -/
def TkRow (w : World) (tb : Nat) (T : List Bool) : Prop := w.heap[tb]? = some (.cells (T.map Value.bool).toArray 4 (0, 0))

theorem TkRow.at {w : World} {tb : Nat} {T : List Bool} (h : TkRow w tb T) (p : Nat) (t : Bool) (hp : T[p]? = some t) : w.cell? ⟨tb, p, none⟩ = some (.bool t) ∧ w.frozen? ⟨tb, p, none⟩ = false := by
  refine ⟨(cell_of_row w tb p _ _ _ h).trans ?_, frozen_of_row _ _ _ _ _ h⟩
  simp [hp]

theorem TkRow.kt {ts : List TypeId} {lo : Nat} {w w' : World} {tb : Nat} {T : List Bool} (h : TkRow w tb T) (hk : KT ts lo w w') (ht : 4 ∉ ts) : TkRow w' tb T := hk.block h ht

theorem TkRow.below {w w' : World} {tb : Nat} {T : List Bool} (h : TkRow w tb T) (hb : Below w.heap.size w w') : TkRow w' tb T := (hb.block _ (Array.getElem?_eq_some_iff.1 h).1).trans h

theorem TkRow.set {w : World} {tb : Nat} {T : List Bool} (h : TkRow w tb T) (p : Nat) (t : Bool) : TkRow (w.setCell ⟨tb, p, none⟩ (.bool t)) tb (T.set p t) := by
  refine (setCell_heapS _ _ _ _ _ _ _ h).trans ?_
  rw [List.map_set, List.setIfInBounds_toArray]

theorem MpF.setTk {w : World} {lo b N tb p : Nat} {T : List Bool} {F : List (Int × Int)} (h : MpF w lo b N F) (ht : TkRow w tb T) (v : Value) : MpF (w.setCell ⟨tb, p, none⟩ v) lo b N F := by
  refine h.keep fun k cs t hk hts => setCell_else w tb p k v fun e => ?_
  subst e
  unfold TkRow at ht
  rw [ht] at hk
  simp only [Option.some.injEq, Obj.cells.injEq] at hk
  obtain ⟨_, rfl, _⟩ := hk
  simp [mapTs] at hts

theorem MpAt.setTk {w : World} {lo b tb p : Nat} {T T' : List Bool} (h : MpAt w lo b T') (ht : TkRow w tb T) (v : Value) : MpAt (w.setCell ⟨tb, p, none⟩ v) lo b T' := by
  obtain ⟨F, h1, h2, h3⟩ := h
  exact ⟨F, h1.setTk ht v, h2, h3⟩

theorem mkbool60 (n : Nat) (h : n ≤ 60) (w : World) : (Instr.makeSlice 73 (.int .i64 (n : Int)) (.int .i64 (n : Int))).run Try.prog w = .ok (.slice (some ⟨w.heap.size, 0, none⟩) n n) (w.alloc (.cells ((List.replicate n false).map Value.bool).toArray 4)) := by
  have hinfo : (Try.prog.info? 4).map (fun i => (i.zero, i.size, i.bytes)) = some (some (.bool false), 1, 1) := by kernel_rfl
  obtain ⟨i, hi, hz0, hz1, hz2⟩ := info_parts hinfo
  have := run_makeSlice (P := Try.prog) (w := w) 73 4 i _ Try.underlying73 hi hz0 .i64 .i64 n n (by omega) (Int.le_refl _) (by rw [hz1]; simp; omega) (by rw [hz2]; omega) (by omega)
  rw [this, hz1]
  simp only [Int.toNat_natCast]
  have e : madeCells (Value.bool false).cells (n * 1) = ((List.replicate n false).map Value.bool).toArray := by
    rw [Nat.mul_one, List.map_replicate]
    apply Array.toList_inj.1
    show (madeCells #[Value.bool false] n).toList = _
    rw [toList_madeCells_one]
  rw [e]

/-- A map as it is made. -/
theorem newmap_any (w : World) (n : Int) (M : Nat) (hM : M = n.toNat) : Calls Try.prog 32 #[.int .i64 n] w fun e w' => ∃ b, e = .returned (.pointer (some ⟨b, 0, none⟩)) ∧ MpAt w' w.heap.size b (List.replicate M false) ∧ Below w.heap.size w w' := by
  by_cases hn : n ≤ 0
  · obtain rfl : M = 0 := by omega
    refine (newmap0 w n hn).mono ?_
    rintro e w' ⟨rfl, h, hb⟩
    exact ⟨_, rfl, ⟨[], ⟨trivial, .inl ⟨rfl, rfl, h⟩⟩, fun p hp => absurd hp (by simp), rfl⟩, hb⟩
  · refine (newmapG w n (by omega)).mono ?_
    rintro e w' ⟨rfl, h, hb⟩
    have hMn : (M : Int) = n := by omega
    refine ⟨_, rfl, ⟨[(0, n)], ⟨?_, .inr ⟨?_, w.heap.size, 1, [], ?_, ?_⟩⟩, ?_, ?_⟩, hb⟩
    · rw [List.length_replicate]; exact ⟨by omega, by omega, by omega, trivial⟩
    · rw [List.length_replicate]; omega
    · rw [List.length_replicate, hMn]
      have e : runSum [(0, n)] = n := by simp [runSum]
      rw [e]
      exact h
    · unfold maxLen; omega
    · intro p hp
      rw [List.length_replicate] at hp
      rw [List.getElem?_replicate, if_pos hp]
      simp only [FreeIn, or_false, true_iff]
      omega
    · simp [runSum]; omega

theorem ints_at {w w' : World} {a : Option Addr} {len cap : Nat} {zs : List Int} (h : IsRow .i64 w a len cap zs) (hb : Below w.heap.size w w') {k : Nat} (hk : k < len) : ∃ b off, a = some ⟨b, off, none⟩ ∧ w'.cell? ⟨b, off + k, none⟩ = some (.int .i64 (zs.getD k 0)) ∧ -9223372036854775808 ≤ zs.getD k 0 ∧ zs.getD k 0 ≤ 9223372036854775807 := by
  rcases h with ⟨rfl, rfl, _, _⟩ | ⟨x, rfl, h1, h2, h3, h4, h5⟩
  · omega
  · have hc := h4 k (by omega)
    obtain ⟨b, off, spot⟩ := x
    have h0 := h4 0 (by omega)
    have hs : spot = none := by simpa [Addr.add] using World.cell?_spot h0
    subst hs
    have hlt := World.block_lt_of_cell? _ _ hc
    rw [Addr.add_lit] at hc hlt
    refine ⟨b, off, rfl, (hb.cell (p := ⟨b, off + k, none⟩) hlt).trans hc, ?_⟩
    have h6 := h5 (zs.getD k 0) (by rw [List.getD_eq_getElem?_getD, List.getElem?_eq_getElem (by omega)]; exact List.getElem_mem _)
    exact (Lit.wf_int_iff _ _).1 h6

end Go.Proofs.Ytbagpckiegpalaa
