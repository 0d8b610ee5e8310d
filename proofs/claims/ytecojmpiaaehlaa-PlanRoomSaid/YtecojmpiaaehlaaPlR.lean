/-
  Contracts of plan: Reserve.
-/
import Derived.Test.YtecojmpiaaehlaaPlGr
namespace Go.Proofs.Ytecojmpiaaehlaa
open Go.RowKit Go.Shelf
set_option linter.unusedVariables false

theorem bndP_len (P : List (List Int)) : (bndP P).length = P.length := by simp [bndP]

theorem RpAt.rdp {w : World} {lo bc : Nat} {g : Nat → Nat} {P : List (List Int)} (h : RpAt w lo bc g P) : RdP w (.slice (some ⟨bc, 0, none⟩) P.length P.length) P :=
  .inr ⟨bc, 0, P.length, rfl, Nat.le_refl _, by have := h.len; omega, h.bcl, fun i r hi => by rw [Nat.zero_add]; exact ⟨_, _, h.row i r hi, h.rd i r hi⟩⟩

set_option maxRecDepth 100000 in
set_option maxHeartbeats 4000000 in
theorem xreserve_any (w : World) (v : Value) (P : List (List Int)) (at_ row len : Int) (ns : List Int) (ok : Bool) (u : Value) (h : RdP w v P) (hl : P.length ≤ 1000) (hrl : ∀ r ∈ P, r.length ≤ 1000) (hu : RdW w u (ns.map iw)) (hnl : ns.length ≤ 1000) :
    Calls Try.prog 18 #[v, .agg #[.int .i64 at_, .int .i64 row, u, .bool ok], .int .i64 len] w fun e w' => ∃ bc g, e = .returned (.slice (some ⟨bc, 0, none⟩) P.length P.length) ∧ RpAt w' w.heap.size bc g (resR P ok row ns (addT at_ (max len 1))) ∧ Below w.heap.size w w' := by
  obtain ⟨a, cap, rfl, hc1, hc2⟩ := h.len
  obtain ⟨ua, uc, rfl, hu1, hu2⟩ := hu.len
  rw [List.length_map] at hu hu1
  have HH := hid h
  have HU := hid hu
  clear h hu
  rw [List.length_map]
  go_enter Try.func18, Try.ntmps18
  go_wp2_with fail
  obtain ⟨w1, hw1⟩ : ∃ w1, w1 = w.alloc (.cells #[.int .i64 at_, .int .i64 row, .slice ua ns.length uc, .bool ok] 32) := ⟨_, rfl⟩
  rw [← hw1]
  have hs1 : w1.heap.size = w.heap.size + 1 := by rw [hw1]; simp
  have hb1 : Below w.heap.size w w1 := by rw [hw1]; exact (Below.refl _ w).alloc (Nat.le_refl _) _
  have g1 : w1.heap[w.heap.size]? = some (.cells #[.int .i64 at_, .int .i64 row, .slice ua ns.length uc, .bool ok] 32 (0, 0)) := by rw [hw1]; exact heap_alloc_new w _
  refine (copied_any w1 _ P (HH.out.all hb1) hl hrl).mono ?_
  rintro e w3 ⟨bc, g, rfl, hp3, hb3⟩
  have hb13 := hb1.trans (hb3.mono (by omega))
  have HB13 := hid hb13
  have HG3 := hid ((hb3.block _ (by omega)).trans g1)
  have HRR := hid (rsv_any w3 w1.heap.size bc g P at_ row len ns ok (.slice ua ns.length uc) hp3 (HU.out.all hb13) hnl (by
    intro hne b o n c e i hi
    obtain ⟨x, hx⟩ : ∃ x, ns[0]? = some x := by
      cases ns with
      | nil => exact absurd rfl hne
      | cons x l => exact ⟨x, rfl⟩
    obtain ⟨b', o', e', hlt, -⟩ := HU.out.at 0 (iw x) (by rw [List.getElem?_map, hx]; rfl)
    simp only [Value.slice.injEq] at e
    rw [e'] at e
    have h1 := hp3.log i hi
    have h2 : b' = b := by have := e.1; simp at this; exact this.1
    omega))
  have HGL := hid (fun i hi => hp3.log i hi)
  clear hw1 hb1 g1 hp3 hb3 hb13
  go_wp2_with (first
    | (refine load_st rfl 32 (.tmp 4) rfl w.heap.size rfl _ _ 4 HG3.out Try.underlying32 info_start rfl ?_)
    | (go_at_call 30; refine HRR.out.mono ?_; rintro e w4 ⟨rfl, hp4, hk4⟩; have HP4 := hid hp4; have HK4 := hid hk4; clear hp4 hk4)
    | fail)
  go_ret
  refine ⟨bc, g, rfl, ⟨HP4.out.rows, HP4.out.cells, HP4.out.inj, by have := HP4.out.lob; omega, fun i hi => by have := HP4.out.log i hi; omega, HP4.out.len, HP4.out.rlen⟩, ?_⟩
  exact HB13.out.trans (HK4.out.below HB13.out.size fun b hb => by
    obtain ⟨i, hi, rfl⟩ := hb
    have := HGL.out i hi
    omega)


end Go.Proofs.Ytecojmpiaaehlaa
