/-
  Layer 6: the example's map: Take of two places.
-/
import Derived.Test.YtbagpckiegpalaaMpD
import Derived.Test.YtbagpckiegpalaaAppR
import Derived.BigQuiet
namespace Go.Proofs.Ytbagpckiegpalaa
open Go.RowKit
set_option linter.unusedVariables false
set_option linter.unusedSimpArgs false

theorem delete_none (w : World) (g : Nat) :
    Calls Try.prog 54 #[.slice (some ⟨g, 0, none⟩) 1 1, .int .i64 0, .int .i64 0] w fun e w' => e = .returned (.slice (some ⟨g, 0, none⟩) 1 1) ∧ w = w' := by
  go_enter Try.func54, Try.ntmps54
  go_wp2_with fail
  go_ret
  exact ⟨rfl, rfl⟩

/-- Within Take: n places are told, the run begins at k. -/
structure TkIn (w wr : World) (b g : Nat) (v : Value) (n k : Nat) : Prop where
  map : wr.heap[b]? = some (.cells #[.int .i64 3, .int .i64 3, .slice (some ⟨g, 0, none⟩) 1 1] 114 (0, 0))
  run : wr.heap[g]? = some (.cells #[.int .i64 (k : Int), .int .i64 3] 116 (0, 0))
  own : ∃ xs, wr.ownsRow w.heap.size 3 1 v n xs
  kp : Keeps (fun i => i = g) w wr

theorem TkIn.cells {w wr : World} {b g n k : Nat} {v : Value} (h : TkIn w wr b g v n k) :
    wr.cell? ⟨b, 1, none⟩ = some (.int .i64 3) ∧ wr.cell? ⟨b, 2, none⟩ = some (.slice (some ⟨g, 0, none⟩) 1 1) ∧ wr.cell? ⟨g, 0, none⟩ = some (.int .i64 (k : Int)) ∧ wr.cell? ⟨g, 1, none⟩ = some (.int .i64 3) ∧ wr.frozen? ⟨g, 0, none⟩ = false ∧ wr.frozen? ⟨b, 1, none⟩ = false ∧ wr.frozen? ⟨b, 2, none⟩ = false :=
  ⟨(cell_of_row _ _ _ _ _ _ h.map).trans rfl, (cell_of_row _ _ _ _ _ _ h.map).trans rfl, (cell_of_row _ _ _ _ _ _ h.run).trans rfl, (cell_of_row _ _ _ _ _ _ h.run).trans rfl, frozen_of_row _ _ _ _ _ h.run, frozen_of_row _ _ _ _ _ h.map, frozen_of_row _ _ _ _ _ h.map⟩

theorem TkIn.drewN {w wr : World} {b g n k : Nat} {v : Value} (h : TkIn w wr b g v n k) (m : Nat) : TkIn w (wr.drewN m) b g v n k :=
  ⟨h.map, h.run, by obtain ⟨xs, hx⟩ := h.own; exact ⟨xs, owns_below hx (below_behindB (Below.refl _ wr) m)⟩, ⟨h.kp.os, h.kp.tape, h.kp.output, h.kp.size, h.kp.block⟩⟩

theorem tk_app {w wr : World} {b g k n : Nat} {ua : Option Addr} {uc : Nat} (h : TkIn w wr b g (.slice ua n uc) n k) (hn : n ≤ 2) :
    ∃ ad cap w2, (Builtin.append_ #[70, 70] 70 #[.slice ua n uc, .slice (some ⟨wr.heap.size, 0, none⟩) 1 1]).run Try.prog (wr.alloc (.cells #[.int .i64 (k : Int)] 3)) = .ok (.slice ad (n + 1) cap) w2 ∧ TkIn w w2 b g (.slice ad (n + 1) cap) (n + 1) k := by
  obtain ⟨xs, hx⟩ := h.own
  have hb : Below wr.heap.size wr (wr.alloc (.cells #[.int .i64 (k : Int)] 3)) := (Below.refl _ wr).alloc (Nat.le_refl _) _
  obtain ⟨ad, cap, w2, h1, h2, h3, h4⟩ := run_apps2 (wr.alloc (.cells #[.int .i64 (k : Int)] 3)) 70 w.heap.size 70 3 1 8 (.int .i64 0) Try.underlying70 (by kernel_rfl) rfl (by omega) (.slice ua n uc) (.slice (some ⟨wr.heap.size, 0, none⟩) 1 1) n 1 xs [.int .i64 (k : Int)] (owns_below hx hb) (SrcC.lit wr _ _ 1 _ rfl) rfl (by simp [Value.oneCell']) (by omega) (by omega) (Nat.le_trans h.kp.size hb.size)
  have hlm := (Array.getElem?_eq_some_iff.1 h.map).1
  have hlr := (Array.getElem?_eq_some_iff.1 h.run).1
  refine ⟨ad, cap, w2, h1, ⟨?_, ?_, ⟨_, h2⟩, ?_⟩⟩
  · exact (h3.block b (by have := hb.size; omega) (fun e => owns_ne hx h.map (by decide) b e.symm rfl)).trans ((hb.block b hlm).trans h.map)
  · exact (h3.block g (by have := hb.size; omega) (fun e => owns_ne hx h.run (by decide) g e.symm rfl)).trans ((hb.block g hlr).trans h.run)
  · exact (h.kp.alloc _).trans' (Keeps.of_grown h3) (fun i hi e => absurd (World.ownsRow.lt hx i e).1 (by omega))

theorem tk_set {w wr : World} {b g n k : Nat} {v : Value} (h : TkIn w wr b g v n k) (hbg : b ≠ g) (u : Int) (hu : u = ((k + 1 : Nat) : Int)) : TkIn w (wr.setCell ⟨g, 0, none⟩ (.int .i64 u)) b g v n (k + 1) := by
  subst hu
  have ho : ∀ q, q ≠ g → (wr.setCell ⟨g, 0, none⟩ (.int .i64 ((k + 1 : Nat) : Int))).heap[q]? = wr.heap[q]? := fun q hq => by
    show (wr.heap.modify g _)[q]? = _
    rw [Array.getElem?_modify, if_neg (by omega)]
  obtain ⟨xs, hx⟩ := h.own
  exact ⟨(ho b hbg).trans h.map, (setCell_heapS _ _ _ _ _ _ _ h.run).trans (by simp), ⟨xs, owns_by hx (fun q hq => ho q (owns_ne hx h.run (by decide) q hq))⟩, h.kp.setCell (p := ⟨g, 0, none⟩) (fun _ => rfl) _⟩

theorem mkI {w : World} {ops : Array Oper} {rest : List Oper} {o : Oper} {a : Act} {Q : Exit → Act → World → Prop} (hg : o.guard = none) (l c : Operand) (hop : o.op = Op.makeSlice 70 l c)
    (base : Nat) (kl kc : IntKind) (C : Int) (n : Nat) (hl : a.eval l = .int kl 0) (hc : a.eval c = .int kc C) (hC : C = (n : Int)) (hn : n ≤ 1000000) (hb : base ≤ w.heap.size)
    (hK : ∀ w', w'.ownsRow base 3 1 (.slice (some ⟨w.heap.size, 0, none⟩) 0 n) 0 [] → Below w.heap.size w w' → wpList Try.prog ops Q rest (a.put o.dst (.slice (some ⟨w.heap.size, 0, none⟩) 0 n)) w') :
    wpList Try.prog ops Q (o :: rest) a w := by
  have hinfo : (Try.prog.info? 3).map (fun i => (i.zero, i.size, i.bytes)) = some (some (.int .i64 0), 1, 8) := by kernel_rfl
  obtain ⟨i, hi, hz0, hz1, hz2⟩ := info_parts hinfo
  refine wpList_make_own w hg l c 70 hop base 3 i (.int .i64 0) 1 Try.underlying70 hi hz0 hz1 kl kc C n hl hc hC (by rw [hz2]; omega) (by unfold maxLen; omega) hb ?_
  intro w' h1 h2
  exact hK w' h1 ⟨h2.os, h2.tape, h2.output, h2.size, fun k hk => h2.block k hk (by simp)⟩

def slLen : Value → Nat
  | .slice _ n _ => n
  | _ => 0

set_option maxRecDepth 100000 in
set_option maxHeartbeats 4000000 in
/-- TAKE of two places of three that are free. -/
theorem take_two (w : World) (lo b g : Nat) (h : MC w lo b g 3 0 3) :
    Calls Try.prog 35 #[.pointer (some ⟨b, 0, none⟩), .int .i64 2] w fun e w' => ∃ ua uc, e = .returned (.tuple #[.slice ua 2 uc, .bool true]) ∧ MC w' lo b g 1 2 3 ∧ Keeps (fun k => k = b ∨ k = g) w w' := by
  obtain ⟨⟨c0, c1, c2, c3, c4⟩, -, -, -, -, -⟩ := h.cells
  have H := hid h
  have HBG := hid (show b ≠ g by
    intro e
    subst e
    have := h.map.symm.trans h.run
    simp at this)
  clear h
  go_enter Try.func35, Try.ntmps35
  go_wp2_with (first
    | (refine mkI rfl (.const (.int .i64 0)) (.tmp 24) rfl w.heap.size .i64 .i64 2 2 rfl rfl rfl (by omega) (Nat.le_refl _) ?_; intro w1 ho hb1)
    | fail)
  have HT0 := hid (show TkIn w w1 b g (.slice (some ⟨w.heap.size, 0, none⟩) 0 2) 0 0 from ⟨(H.out.below hb1).map, (H.out.below hb1).run, ⟨_, ho⟩, Keeps.of_below hb1 (fun k h1 h2 => by omega)⟩)
  clear c0 c1 c2 c3 c4 ho hb1
  go_loopw [6, 7] (fun x y wr => ∃ ua uc k, x = .slice ua k uc ∧ y = .int .i64 0 ∧ (k = 0 ∨ k = 2) ∧ TkIn w wr b g (.slice ua k uc) k k) (fun x _ _ => 2 - slLen x)
  case atStart => exact ⟨_, _, 0, rfl, rfl, .inl rfl, HT0.out⟩
  case round =>
    obtain ⟨ua, uc, k, rfl, rfl, hk, hT⟩ := hrel
    have HT := hid hT
    obtain ⟨-, e2, -, -, -⟩ := hT.cells
    clear hT
    rcases hk with rfl | rfl
    · go_wp2_with fail
      obtain ⟨wo, hwo⟩ : ∃ z, z = wr := ⟨_, rfl⟩
      rw [← hwo] at HT ⊢
      clear e2 hwo
      go_loopw [6] (fun x wr => ∃ ua uc k, x = .slice ua k uc ∧ k ≤ 2 ∧ TkIn w wr b g (.slice ua k uc) k k) (fun x _ => 2 - slLen x)
      case atStart => exact ⟨_, _, 0, rfl, Nat.zero_le _, HT.out⟩
      case round =>
        obtain ⟨ua, uc, k, rfl, hk, hT⟩ := hrel
        have HT2 := hid hT
        obtain ⟨-, -, e3, e4, -⟩ := hT.cells
        clear hT
        by_cases hlt : k < 2
        · have d1 : decide ((k : Int) < 3) = true := decide_eq_true (by omega)
          have d2 : decide ((k : Int) < 2) = true := decide_eq_true (by omega)
          go_wp2_with fail
          go_quiet (fail)
          have HT3 := hid (HT2.out.drewN nq)
          obtain ⟨wq, hwq⟩ : ∃ z, z = wr.drewN nq := ⟨_, rfl⟩
          rw [← hwq] at HT3 ⊢
          clear hwq e3 e4 d1 d2
          obtain ⟨-, -, e3, e4, -⟩ := HT3.out.cells
          obtain ⟨ad, cp, w2, hrun, hT4⟩ := tk_app HT3.out hk
          have HRUN := hid hrun
          have HT4 := hid hT4
          obtain ⟨-, -, q3, q4, z3, -⟩ := hT4.cells
          have hwr : IntKind.i64.wrap ((k : Int) + 1) = (k : Int) + 1 := by rw [IntKind.wrap_i64]; omega
          clear hrun hT4
          go_wp2_with (first
            | (at_builtin; refine ap_run rfl 70 70 (.tmp 51) (.tmp 56) rfl _ _ _ _ rfl rfl HRUN.out ?_)
            | fail)
          go_roundw
          case rel => exact ⟨ad, cp, k + 1, rfl, by omega, tk_set HT4.out HBG.out _ rfl⟩
          case measure => simp [slLen]; omega
        · obtain rfl : k = 2 := by omega
          have d1 : decide (((2 : Nat) : Int) < 3) = true := rfl
          go_wp2_with fail
          go_quiet (fail)
          clear d1
          have HT5 := hid (HT2.out.drewN nq)
          obtain ⟨wq, hwq⟩ : ∃ z, z = wr.drewN nq := ⟨_, rfl⟩
          rw [← hwq] at HT5 ⊢
          clear hwq e3 e4
          obtain ⟨-, -, e3, e4, -⟩ := HT5.out.cells
          go_upto_region 10 with fail
          go_quiet (fail)
          go_wp2_with fail
          go_roundw
          case rel => exact ⟨ua, uc, 2, rfl, rfl, .inr rfl, HT5.out.drewN _⟩
          case measure => simp [slLen]
    · have hdl := HT.out.map
      have HD := hid (delete_none wr g)
      obtain ⟨e1, e2, -, -, -, z1, z2⟩ := HT.out.cells
      go_upto_region 13 with (first
        | (go_at_call 54; refine (HD.out).mono ?_; rintro e w2 ⟨rfl, rfl⟩)
        | fail)
      obtain ⟨w5, hw5⟩ : ∃ z, z = wr.setCell ⟨b, 2, none⟩ (.slice (some ⟨g, 0, none⟩) 1 1) := ⟨_, rfl⟩
      rw [← hw5]
      have hm5 : w5.heap[b]? = some (.cells #[.int .i64 3, .int .i64 3, .slice (some ⟨g, 0, none⟩) 1 1] 114 (0, 0)) := by rw [hw5]; exact (setCell_heapS _ _ _ _ _ _ _ HT.out.map).trans (by simp)
      have hr5 : w5.heap[g]? = some (.cells #[.int .i64 ((2 : Nat) : Int), .int .i64 3] 116 (0, 0)) := by
        rw [hw5]
        show (wr.heap.modify b _)[g]? = _
        rw [Array.getElem?_modify, if_neg HBG.out]
        exact HT.out.run
      have hk5 : Keeps (fun i => i = b ∨ i = g) w w5 := by
        rw [hw5]
        exact (HT.out.kp.mono (fun _ _ e => .inr e)).setCell (p := ⟨b, 2, none⟩) (fun _ => .inl rfl) _
      have HM5 := hid hm5
      have HR5 := hid hr5
      have HK5 := hid hk5
      clear e1 e2 z1 z2 hw5 hm5 hr5 hk5 hdl
      have e1 : w5.cell? ⟨b, 1, none⟩ = some (.int .i64 3) := (cell_of_row _ _ _ _ _ _ HM5.out).trans rfl
      have z1 : w5.frozen? ⟨b, 1, none⟩ = false := frozen_of_row _ _ _ _ _ HM5.out
      go_wp2_with fail
      go_ret2
      refine ⟨ua, uc, rfl, ⟨?_, ?_, H.out.lob, H.out.log⟩, HK5.out.setCell (p := ⟨b, 1, none⟩) (fun _ => .inl rfl) _⟩
      · exact (setCell_heapS _ _ _ _ _ _ _ HM5.out).trans (by simp)
      · show (w5.heap.modify b _)[g]? = _
        rw [Array.getElem?_modify, if_neg HBG.out]
        exact HR5.out

end Go.Proofs.Ytbagpckiegpalaa
