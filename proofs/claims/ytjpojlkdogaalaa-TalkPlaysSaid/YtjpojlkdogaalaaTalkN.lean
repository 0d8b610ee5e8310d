/-
  Layer 10: New, Open, Heard, answered, packet, Mine: contracts.
-/
import Derived.Test.YtjpojlkdogaalaaTalkM
import Derived.Test.YtjpojlkdogaalaaClone
import Derived.Test.YtjpojlkdogaalaaPkt
import Derived.BigRegion
import Derived.Deep.QuietTactic
import Derived.Deep.RegionHeld3
import Derived.BigQuiet
namespace Go.Proofs.Ytjpojlkdogaalaa
open Go.RowKit
set_option linter.unusedVariables false

theorem tkv_new (w : World) (base : B9) (node epoch life : Int) (hb : base.n ≤ w.heap.size) (hQ : base.Q w.heap.size) : TkV (w.alloc (.cells #[.int .u8 node, .int .u32 epoch, .int .u32 life, .int .u32 0, .int .u32 0, .slice none 0 0, .int .u64 0] 73)) base w.heap.size (Tk.new node epoch life) (.slice none 0 0) [] :=
  ⟨heap_alloc_new w _, World.ownsRow_nil _ _ _ _, rfl, (fun x hx => by cases hx), hb, ⟨Nat.le_refl _, Nat.zero_le _, Nat.zero_le _, Nat.zero_le _, Nat.zero_le _, (fun x hx => by cases hx)⟩, (fun x hx => by cases hx), (fun k hk => by rcases hk with rfl | hk; exact hQ; cases hk)⟩

set_option maxHeartbeats 1000000 in
theorem talknew_any (node epoch life : Int) (w : World) (base : B9) (hb : base.n ≤ w.heap.size) (hQ : base.Q w.heap.size := by trivial) :
    Calls Try.prog 10 #[.int .u8 node, .int .u32 epoch, .int .u32 life] w fun e w' => e = .returned (.pointer (some ⟨w.heap.size, 0, none⟩)) ∧ TkAt w' base w.heap.size (Tk.new node epoch life) ∧ Below w.heap.size w w' := by
  go_enter Try.func10, Try.ntmps10
  go_wp2
  go_ret
  exact ⟨rfl, ⟨_, _, tkv_new w base node epoch life hb hQ⟩, (Below.refl _ _).alloc (Nat.le_refl _) _⟩

set_option maxHeartbeats 1000000 in
theorem open_any (base : B9) (b : Nat) (s : Tk) (w : World) (h : TkAt w base b s) :
    Calls Try.prog 23 #[.pointer (some ⟨b, 0, none⟩)] w fun e w' => e = .returned (.int .i64 (s.l.length : Int)) ∧ w = w' := by
  obtain ⟨fv, PF, hh⟩ := h
  obtain ⟨c0, c1, c2, c3, c4, c5, c6, hf⟩ := hh.cells
  obtain ⟨a, c, rfl, hc1, hc2⟩ := hh.shape
  clear hf hh
  go_enter Try.func23, Try.ntmps23
  go_wp2
  go_ret
  exact ⟨rfl, rfl⟩

theorem open_nil (w : World) :
    Calls Try.prog 23 #[.pointer none] w fun e w' => e = .returned (.int .i64 0) ∧ w = w' := by
  go_enter Try.func23, Try.ntmps23
  go_wp2
  go_ret
  exact ⟨rfl, rfl⟩

set_option maxHeartbeats 1000000 in
theorem heard_any (base : B9) (b : Nat) (s : Tk) (w : World) (h : TkAt w base b s) :
    Calls Try.prog 24 #[.pointer (some ⟨b, 0, none⟩)] w fun e w' => e = .returned (.int .u32 (s.heard : Int)) ∧ w = w' := by
  obtain ⟨fv, PF, hh⟩ := h
  obtain ⟨c0, c1, c2, c3, c4, c5, c6, hf⟩ := hh.cells
  clear hf hh
  go_enter Try.func24, Try.ntmps24
  go_wp2
  go_ret
  exact ⟨rfl, rfl⟩

theorem heard_nil (w : World) :
    Calls Try.prog 24 #[.pointer none] w fun e w' => e = .returned (.int .u32 0) ∧ w = w' := by
  go_enter Try.func24, Try.ntmps24
  go_wp2
  go_ret
  exact ⟨rfl, rfl⟩

set_option maxHeartbeats 2000000 in
theorem answered_any (base : B9) (b : Nat) (s : Tk) (w : World) (h : TkAt w base b s) :
    Calls Try.prog 30 #[.pointer (some ⟨b, 0, none⟩)] w fun e w' => e = .returned (.int .u32 (s.done : Int)) ∧ w.drew = w' := by
  obtain ⟨fv, PF, hh⟩ := h
  obtain ⟨c0, c1, c2, c3, c4, c5, c6, hf⟩ := hh.cells
  obtain ⟨a, c, rfl, hc1, hc2⟩ := hh.shape
  have EW := hid (show IntKind.u32.wrap ((s.all.length : Int) - IntKind.u32.wrap (s.l.length : Int)) = (s.done : Int) by
    have hl := s.l_len
    obtain ⟨o1, o2, o3, o4, o5, o6⟩ := hh.ok
    rw [IntKind.wrap_u32, IntKind.wrap_u32]
    omega)
  have d4 : w.drew.cell? ⟨b, 4, none⟩ = some (.int .u32 (s.all.length : Int)) := c4
  have d5 : w.drew.cell? ⟨b, 5, none⟩ = some (.slice a s.l.length c) := c5
  clear hf hh
  go_enter Try.func30, Try.ntmps30
  go_wp2_with fail
  go_region_held3 (fun w' => w'.cell? ⟨b, 4, none⟩ = some (.int .u32 (s.all.length : Int)) ∧ w'.cell? ⟨b, 5, none⟩ = some (.slice a s.l.length c)) (first | (refine ⟨?_, ?_⟩ <;> assumption) | fail) (fail)
  go_wp2
  go_ret
  exact ⟨by rw [EW.out]; rfl, rfl⟩

set_option maxHeartbeats 2000000 in
theorem packet_any (base : B9) (b : Nat) (s : Tk) (seq : Int) (v : Value) (t : List UInt8) (w : World) (h : TkAt w base b s) (hv : Rd w v t) (hl : t.length ≤ 140737488355328) :
    Calls Try.prog 28 #[.pointer (some ⟨b, 0, none⟩), .int .u32 seq, v] w fun e w' => ∃ va vc, e = .returned (.agg #[.int .u8 s.node, .int .u32 s.epoch, .int .u32 s.life, .int .u32 seq, .int .u32 (s.heard : Int), .bool false, .slice va t.length vc]) ∧ Own w' w.heap.size (.slice va t.length vc) t ∧ Below w.heap.size w w' := by
  obtain ⟨fv, PF, hh⟩ := h
  have hlt := hh.lt
  obtain ⟨va, vc, rfl⟩ := rd_sl hv
  go_enter Try.func28, Try.ntmps28
  go_wp2_with fail
  obtain ⟨w1, hw1⟩ : ∃ w1, w1 = w.alloc (.cells #[.int .u8 0, .int .u32 0, .int .u32 0, .int .u32 0, .int .u32 0, .bool false, .slice none 0 0] 31) := ⟨_, rfl⟩
  rw [← hw1]
  have hs1 : w1.heap.size = w.heap.size + 1 := by rw [hw1]; simp
  have hb1 : Below w.heap.size w w1 := by rw [hw1]; exact (Below.refl _ _).alloc (Nat.le_refl _) _
  have g1 : w1.heap[w.heap.size]? = some (.cells #[.int .u8 0, .int .u32 0, .int .u32 0, .int .u32 0, .int .u32 0, .bool false, .slice none 0 0] 31 (0, 0)) := by rw [hw1]; exact heap_alloc_new w _
  obtain ⟨c0, c1, c2, c3, _, _, _, _⟩ := (hh.below hb1).cells
  have d0 : w1.drew.cell? ⟨b, 0, none⟩ = some (.int .u8 s.node) := c0
  have d1 : w1.drew.cell? ⟨b, 1, none⟩ = some (.int .u32 s.epoch) := c1
  have d2 : w1.drew.cell? ⟨b, 2, none⟩ = some (.int .u32 s.life) := c2
  have d3 : w1.drew.cell? ⟨b, 3, none⟩ = some (.int .u32 (s.heard : Int)) := c3
  have HG := hid (show PkB w1 w.heap.size from ⟨_, _, _, _, _, _, _, g1⟩)
  have HR := hid (show Rd w1.drew (.slice va t.length vc) t from (hv.below hb1 : Rd w1 _ t).drew)
  have HB1 := hid hb1
  have HS1 := hid hs1
  have HNE := hid (show b ≠ w.heap.size by omega)
  have HBL := hid (show b < w1.drew.heap.size by show b < w1.heap.size; omega)
  clear hw1 hs1 hb1 g1 hh c0 c1 c2 c3 hv
  go_region_held3 (fun w' => w'.cell? ⟨b, 0, none⟩ = some (.int .u8 s.node) ∧ w'.cell? ⟨b, 1, none⟩ = some (.int .u32 s.epoch) ∧ w'.cell? ⟨b, 2, none⟩ = some (.int .u32 s.life) ∧ w'.cell? ⟨b, 3, none⟩ = some (.int .u32 (s.heard : Int)))
    (first | (refine ⟨?_, ?_, ?_, ?_⟩ <;> with_reducible assumption) | (refine ⟨cell_out7 HNE.out _ _ _ _ _ _ _ _ ?_, cell_out7 HNE.out _ _ _ _ _ _ _ _ ?_, cell_out7 HNE.out _ _ _ _ _ _ _ _ ?_, cell_out7 HNE.out _ _ _ _ _ _ _ _ ?_⟩ <;> with_reducible assumption) | fail)
    (first | (go_at_call 27; refine (clone_any (.slice va t.length vc) t w1.drew HR.out hl).mono ?_; rintro e w3 ⟨v', rfl, ho, hb⟩; have k0 := (hb.cell (p := ⟨b, 0, none⟩) HBL.out).trans d0; have k1 := (hb.cell (p := ⟨b, 1, none⟩) HBL.out).trans d1; have k2 := (hb.cell (p := ⟨b, 2, none⟩) HBL.out).trans d2; have k3 := (hb.cell (p := ⟨b, 3, none⟩) HBL.out).trans d3
              obtain ⟨xa, xc, ex⟩ := rd_sl ho.rd; subst ex
              have HO := hid ho; have HB := hid hb
              have HG3 := hid (HG.out.of (hb.block w.heap.size (show w.heap.size < w1.heap.size by have := HS1.out; omega)))
              obtain ⟨⟨y0, y1, y2, y3, y4, y5, y6, m0, m1, m2, m3, m4, m5, m6⟩, hf⟩ := HG3.out.facts
              clear ho hb)
           | fail)
  go_wp2
  have KO := keeps_out7 (w := w3) (g := w.heap.size) (.int .u8 s.node) (.int .u32 s.epoch) (.int .u32 s.life) (.int .u32 seq) (.int .u32 (s.heard : Int)) (.bool false) (.slice xa t.length xc)
  refine bodyPost_ret (results_pk rfl _ _ w.heap.size _ _ _ _ _ _ _ rfl (pk_cells HG3.out _ _ _ _ _ _ _)) rfl ⟨_, _, rfl, ?_, ?_⟩
  · refine (HO.out.to (fun k hk => ?_)).base (fun k hk => ?_)
    · have h9 : w1.heap.size ≤ k := (HO.out.lt k hk).1
      have h8 := HS1.out
      exact KO.block k (HO.out.lt k hk).2 (by omega)
    · have h9 : w1.heap.size ≤ k := (HO.out.lt k hk).1
      have h8 := HS1.out
      omega
  · have h8 := HS1.out
    exact (below_dr HB1.out).trans ((HB.out.mono (show w.heap.size ≤ w1.heap.size by omega)).trans (KO.below (by have := HB.out.size; have : w1.heap.size ≤ w3.heap.size := this; omega) (fun i hi => by omega)))

end Go.Proofs.Ytjpojlkdogaalaa
