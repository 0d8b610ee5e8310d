/-
  The document's Find: a list of items that is read.
-/
import Derived.Test.YtcgfechodbmimaaPrNl
import Derived.Test.YtcgfechodbmimaaPrR
import Derived.Test.YtcgfechodbmimaaPrL
namespace Go.Proofs.Ytcgfechodbmimaa
open Go.RowKit Go.ChangeMaps
set_option linter.unusedVariables false
set_option linter.unusedSimpArgs false

/-- A list of items that is read, in blocks of which S says nothing. -/
def RdL (w : World) (S : Nat → Prop) (v : Value) (l : List It) : Prop :=
  ∃ a c, v = .slice a l.length c ∧ l.length ≤ c ∧ c ≤ 9223372036854775807 ∧ ∀ (k : Nat), k < l.length → ∃ g off, a = some ⟨g, off, none⟩ ∧ g < w.heap.size ∧ ¬ S g ∧ w.cell? ⟨g, off + k * 3, none⟩ = some (.int .u32 (it l k).1) ∧ w.cell? ⟨g, off + k * 3 + 1, none⟩ = some (.int .u8 (it l k).2.1) ∧ w.cell? ⟨g, off + k * 3 + 2, none⟩ = some (.int .u32 (it l k).2.2)

theorem RdL.nil (w : World) (S : Nat → Prop) : RdL w S (.slice none 0 0) [] := ⟨none, 0, rfl, Nat.le_refl _, by omega, fun k hk => absurd hk (by simp)⟩

theorem RdL.keeps {w w' : World} {S T : Nat → Prop} {v : Value} {l : List It} (h : RdL w S v l) (hk : Keeps T w w') (hT : ∀ k, k < w.heap.size → T k → S k) : RdL w' S v l := by
  obtain ⟨a, c, h1, h2, h3, h4⟩ := h
  refine ⟨a, c, h1, h2, h3, fun k hkl => ?_⟩
  obtain ⟨g, off, e, hg, hS, c0, c1, c2⟩ := h4 k hkl
  have hb := hk.block g hg (fun ht => hS (hT g hg ht))
  exact ⟨g, off, e, Nat.lt_of_lt_of_le hg hk.size, hS, (World.cell?_of_block (a := ⟨g, off + k * 3, none⟩) hb).trans c0, (World.cell?_of_block (a := ⟨g, off + k * 3 + 1, none⟩) hb).trans c1, (World.cell?_of_block (a := ⟨g, off + k * 3 + 2, none⟩) hb).trans c2⟩

theorem RdL.below {w w' : World} {S : Nat → Prop} {v : Value} {l : List It} (h : RdL w S v l) (hb : Below w.heap.size w w') : RdL w' S v l :=
  h.keeps (T := fun _ => False) (Keeps.of_below hb fun i h1 h2 => by omega) fun _ _ h => h.elim

theorem RdL.set {w : World} {S T : Nat → Prop} {v : Value} {l : List It} (h : RdL w S v l) (hT : ∀ k, k < w.heap.size → T k → S k) : RdL w T v l := by
  obtain ⟨a, c, h1, h2, h3, h4⟩ := h
  refine ⟨a, c, h1, h2, h3, fun k hkl => ?_⟩
  obtain ⟨g, off, e, hg, hS, cs⟩ := h4 k hkl
  exact ⟨g, off, e, hg, fun ht => hS (hT g hg ht), cs⟩

theorem RdL.of_own {w : World} {lo : Nat} {e : TypeId} {S : Nat → Prop} {v : Value} {l : List It} (h : w.ownsRow lo e 3 v l.length (cels l)) (hS : ∀ k, lo ≤ k → ¬ S k) : RdL w S v l := by
  rcases owns_shape h with ⟨rfl, e0⟩ | ⟨g, cap, rfl, hg1, hg2, hc1, hc2⟩
  · exact ⟨none, 0, by rw [e0], by omega, by omega, fun k hk => by omega⟩
  · refine ⟨_, cap, rfl, hc1, hc2, fun k hk => ?_⟩
    obtain ⟨c0, c1, c2, -, -, -⟩ := own_item h hk
    exact ⟨g, 0, rfl, hg2, hS g hg1, by rw [Nat.zero_add]; exact c0, by rw [Nat.zero_add]; exact c1, by rw [Nat.zero_add]; exact c2⟩

/-- Where an ID stands, as the document tells it. -/
def fnd (l : List It) (z : Int) : Int := match plc l z with | some k => (k : Int) | none => -1

theorem plc_first {l : List It} {z : Int} {k : Nat} (hk : k < l.length) (he : (it l k).1 = z) (hn : ∀ j, j < k → (it l j).1 ≠ z) : plc l z = some k := by
  unfold plc
  rw [List.findIdx?_eq_some_iff_getElem]
  have hg : ∀ j (hj : j < l.length), l[j] = it l j := fun j hj => by
    have h1 := it_some (q := l) hj
    rw [List.getElem?_eq_getElem hj] at h1
    exact Option.some.inj h1
  refine ⟨hk, by rw [hg k hk]; simp [he], fun j hj => ?_⟩
  rw [hg j (by omega)]
  simp [hn j hj]

theorem plc_not {l : List It} {z : Int} (hn : ∀ j, j < l.length → (it l j).1 ≠ z) : plc l z = none := by
  rw [plc_none]
  intro x hx
  obtain ⟨j, hj⟩ := List.getElem?_of_mem hx
  have hl := (List.getElem?_eq_some_iff.1 hj).1
  rw [it_some hl] at hj
  rw [← Option.some.inj hj]
  exact hn j hl

theorem w64t (k : Nat) (h : k < 9223372036854775807) : Go.RowKit.wrap64 ((k : Int) + 1) = ((k + 1 : Nat) : Int) := by unfold Go.RowKit.wrap64; omega

set_option maxRecDepth 100000 in
set_option maxHeartbeats 4000000 in
theorem find11_any (w : World) (S : Nat → Prop) (v : Value) (l : List It) (z : Int) (h : RdL w S v l) :
    Calls Try.prog 15 #[v, .int .u32 z] w fun e w' => e = .returned (.int .i64 (fnd l z)) ∧ Below w.heap.size w w' := by
  obtain ⟨a, c, rfl, hlc, hcm, h4⟩ := h
  have HC := hid h4
  have HLM := hid (Nat.le_trans hlc hcm)
  clear h4
  obtain ⟨n, hn⟩ : ∃ n, n = l.length := ⟨_, rfl⟩
  rw [← hn] at HC HLM hlc ⊢
  have HN := hid hn
  clear hn
  go_enter Try.func15, Try.ntmps15
  go_wp2_with fail
  go_loopw [9] (fun i wr => ∃ k : Nat, i = .int .i64 k ∧ k ≤ n ∧ (∀ j, j < k → (it l j).1 ≠ z) ∧ Below w.heap.size w wr) (fun i _ => n - (intOf i).toNat)
  case atStart => exact ⟨0, rfl, Nat.zero_le _, fun j hj => absurd hj (by omega), Below.refl _ _⟩
  case round =>
    obtain ⟨k, rfl, hk, hnf, hB⟩ := hrel
    have HNF := hid hnf
    have HB := hid hB
    by_cases hlt : k < n
    · obtain ⟨g, off, rfl, hg, -, c0, c1, c2⟩ := HC.out k hlt
      have z0 := (hB.cell (p := ⟨g, off + k * 3, none⟩) hg).trans c0
      have z1 := (hB.cell (p := ⟨g, off + k * 3 + 1, none⟩) hg).trans c1
      have z2 := (hB.cell (p := ⟨g, off + k * 3 + 2, none⟩) hg).trans c2
      obtain ⟨y, hy⟩ : ∃ y, y = it l k := ⟨_, rfl⟩
      rw [← hy] at z0 z1 z2
      have HY := hid hy
      obtain ⟨t0, t1, t2⟩ := y
      dsimp only at z0 z1 z2
      have hki : (k : Int) < (n : Int) := by omega
      have hw1 := w64t k (by have := HLM.out; omega)
      obtain ⟨y1, hy1⟩ : ∃ y, y = wr.alloc (.cells #[.int .u32 t0, .int .u8 t1, .int .u32 t2] 29) := ⟨_, rfl⟩
      have hby : Below wr.heap.size wr y1 := by rw [hy1]; exact (Below.refl _ _).alloc (Nat.le_refl _) _
      have hbx : y1.heap[wr.heap.size]? = some (.cells #[.int .u32 t0, .int .u8 t1, .int .u32 t2] 29 (0, 0)) := by rw [hy1]; exact heap_alloc_new wr _
      have q0 : y1.cell? ⟨wr.heap.size, 0, none⟩ = some (.int .u32 t0) := (cell_of_row _ _ _ _ _ _ hbx).trans rfl
      have HB1 := hid (hB.trans (hby.mono hB.size))
      have HK := hid hlt
      obtain ⟨pt, hpt⟩ : ∃ p, p = wr.heap.size := ⟨_, rfl⟩
      rw [← hpt] at q0
      clear hby hbx hy hB hlt hnf c0 c1 c2
      go_upto_region 4 with (fail)
      rw [← hy1, ← hpt]
      clear hy1 z0 z1 z2 hpt
      by_cases he : t0 = z
      · have HE := hid (show fnd l z = (k : Int) by
          unfold fnd
          rw [plc_first (by rw [← HN.out]; exact HK.out) (by rw [← HY.out]; exact he) HNF.out])
        go_wp2_with fail
        go_ret
        exact ⟨by rw [HE.out]; rfl, HB1.out⟩
      · go_wp2_with fail
        go_roundw
        case rel => exact ⟨k + 1, by go_num, HK.out, fun j hj => by
          by_cases e : j = k
          · subst e; rw [← HY.out]; exact he
          · exact HNF.out j (by omega), HB1.out⟩
        case measure => have := HK.out; simp [intOf]; omega
    · have hki : ¬ (k : Int) < (n : Int) := by omega
      have HE := hid (show fnd l z = -1 by
        unfold fnd
        rw [plc_not (fun j hj => HNF.out j (by have := HN.out; omega))])
      clear hB hnf
      go_wp2_with fail
      go_ret
      exact ⟨by rw [HE.out]; rfl, HB.out⟩

end Go.Proofs.Ytcgfechodbmimaa
