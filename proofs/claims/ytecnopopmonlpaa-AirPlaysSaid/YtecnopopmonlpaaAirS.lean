/-
  Layer 9: start: its contract.
-/
import Derived.Test.YtecnopopmonlpaaAirD
import Derived.Test.YtecnopopmonlpaaAppR
namespace Go.Proofs.Ytecnopopmonlpaa
open Go.RowKit
set_option linter.unusedVariables false

theorem infoFl : (Try.prog.info? 73).map (fun i => (i.zero, i.size, i.bytes)) = some (some (.agg #[.int .u64 0, .int .i64 0, .slice none 0 0]), 3, 40) := by kernel_rfl

def Ar.fly (s : Ar) (to : Int) (t : List UInt8) : Ar := { s with last := s.last + 1, l := s.l ++ [⟨s.last + 1, to, t⟩] }

theorem Ar.fly_ok {s : Ar} (h : s.ok) (to : Int) (t : List UInt8) (hr : s.l.length < s.room) (ht : t.length ≤ 140737488355328) : (s.fly to t).ok := by
  obtain ⟨o1, o2, o3, o4, o5⟩ := h
  refine ⟨?_, ?_, o3, ?_, ?_⟩
  · show ((s.l ++ [(⟨s.last + 1, to, t⟩ : Fl)]).map (·.id)).Pairwise (· < ·)
    rw [List.map_append, List.pairwise_append]
    refine ⟨o1, List.pairwise_singleton _ _, fun a ha b hb => ?_⟩
    obtain ⟨f, hf, rfl⟩ := List.mem_map.1 ha
    simp only [List.map_cons, List.map_nil, List.mem_singleton] at hb
    subst hb
    have := o2 f hf
    omega
  · intro f hf
    show f.id ≤ s.last + 1
    rcases List.mem_append.1 hf with hf | hf
    · have := o2 f hf; omega
    · simp only [List.mem_singleton] at hf; subst hf; exact Nat.le_refl _
  · show (s.l ++ [(⟨s.last + 1, to, t⟩ : Fl)]).length ≤ s.room
    simp; omega
  · intro f hf
    rcases List.mem_append.1 hf with hf | hf
    · exact o5 f hf
    · simp only [List.mem_singleton] at hf; subst hf; exact ht

theorem one_fcells {w : World} {base : Nat} {PF : List (Fl × Value)} (h : ∀ x ∈ PF, Own w base x.2 x.1.t) : ∀ u ∈ PF.flatMap fcells, u.oneCell' = true := by
  intro u hu
  obtain ⟨x, hx, hu⟩ := List.mem_flatMap.1 hu
  obtain ⟨a, c, e⟩ := rd_sl (h x hx).rd
  simp only [fcells, List.mem_cons, List.not_mem_nil, or_false] at hu
  rcases hu with rfl | rfl | rfl
  · rfl
  · rfl
  · rw [e]; rfl

theorem grown_kt {TA TF : TypeId} {w w' : World} {base : B9} {b : Nat} {s : Ar} {fv : Value} {PF : List (Fl × Value)} (h : ArV w base b TA TF s fv PF) (hb : base.n ≤ w.heap.size) (hg : w.grownBy w' fv.ownBlock) : KT [TF] base.n w w' := by
  refine KT.of_keeps (Keeps.of_grown hg) (fun k _ e => ?_) hb
  obtain ⟨cur, hc⟩ := owns_ty h.row k e
  exact ⟨(World.ownsRow.lt h.row k e).1, _, _, _, hc, by simp⟩

theorem hv0_own {w w' : World} {b base : Nat} {v : Value} {l : List UInt8} {cs : Array Value} {TA : TypeId} (hk : Keeps (fun k => k = b) w w') (h : Own w base v l) (hb : w.heap[b]? = some (.cells cs TA (0, 0))) (hT : TA ≠ 5) : Own w' base v l :=
  h.to fun k hk' => hk.block k (h.lt k hk').2 (fun e => by
    obtain ⟨cur, hc⟩ := owns_ty h k hk'
    rw [e, hb] at hc
    simp only [Option.some.injEq, Obj.cells.injEq] at hc
    exact hT hc.2.1)

/-- One more has been appended, and the head names the new row. -/
theorem arv_push {w : World} {base : B9} {b : Nat} {TA TF : TypeId} {s : Ar} {fv0 V : Value} {PF : List (Fl × Value)} {to : Int} {t : List UInt8} {v : Value} (hd : w.heap[b]? = some (.cells #[.int .i64 (s.room : Int), .int .u64 ((s.last + 1 : Nat) : Int), fv0] TA (0, 0)))
    (ho : w.ownsRow base.n TF 3 V (s.l.length + 1) (PF.flatMap fcells ++ [.int .u64 ((s.last : Int) + 1), .int .i64 to, v])) (hp : ∀ x ∈ PF, Own w base.n x.2 x.1.t) (hv : Own w base.n v t) (hl : s.l = PF.map (·.1)) (hb : base.n ≤ b) (hfar : ∀ x ∈ PF, ∀ k, x.2.ownBlock = some k → base.P k) (hvf : ∀ k, v.ownBlock = some k → base.P k) (hok : (s.fly to t).ok) (h1 : TA ≠ TF) (h2 : TA ≠ 5) :
    ArV (w.setCell ⟨b, 2, none⟩ V) base b TA TF (s.fly to t) V (PF ++ [(⟨s.last + 1, to, t⟩, v)]) ∧ KT [TA, TF] base.n w (w.setCell ⟨b, 2, none⟩ V) := by
  have hk := kset w b 2 V
  refine ⟨⟨?_, ?_, ?_, ?_, hb, hok, ?_⟩, KT.of_keeps hk ?_ ?_⟩
  · rw [heap_setCell_same _ _ _ _ _ _ hd]
    simp [Ar.fly]
  · have e : (PF ++ [((⟨s.last + 1, to, t⟩ : Fl), v)]).flatMap fcells = PF.flatMap fcells ++ [.int .u64 ((s.last : Int) + 1), .int .i64 to, v] := by
      rw [List.flatMap_append]; simp [fcells]
    rw [e, show (PF ++ [((⟨s.last + 1, to, t⟩ : Fl), v)]).length = s.l.length + 1 by rw [hl]; simp]
    refine owns_by ho fun k hkk => hk.block k (World.ownsRow.lt ho k hkk).2 fun e => ?_
    obtain ⟨cur, hc⟩ := owns_ty ho k hkk
    rw [e, hd] at hc
    simp only [Option.some.injEq, Obj.cells.injEq] at hc
    exact h1 hc.2.1
  · show s.l ++ [_] = _
    rw [hl]; simp
  · intro x hx
    rcases List.mem_append.1 hx with hx | hx
    · exact hv0_own hk (hp x hx) hd h2
    · simp only [List.mem_singleton] at hx
      subst hx
      exact hv0_own hk hv hd h2
  · intro x hx
    rcases List.mem_append.1 hx with hx | hx
    · exact hfar x hx
    · simp only [List.mem_singleton] at hx
      subst hx
      exact hvf
  · intro k _ e
    subst e
    exact ⟨hb, _, _, _, hd, by simp⟩
  · exact Nat.le_of_lt (Nat.lt_of_le_of_lt hb (Array.getElem?_eq_some_iff.1 hd).1)

set_option maxRecDepth 100000 in
set_option maxHeartbeats 2000000 in
theorem start_any (base : B9) (b : Nat) (s : Ar) (to : Int) (va : Option Addr) (vc : Nat) (t : List UInt8) (w : World) (h : AirAt w base b s) (hb : base.n ≤ w.heap.size) (hv : Own w base.n (.slice va t.length vc) t) (hvf : ∀ k, (Value.slice va t.length vc).ownBlock = some k → base.P k) (hr : s.l.length < s.room) (hlast : s.last ≤ 1000000) (ht : t.length ≤ 140737488355328) :
    Calls Try.prog 24 #[.pointer (some ⟨b, 0, none⟩), .agg #[.int .i64 to, .slice va t.length vc]] w fun e w' => e = .returned (.int .u64 ((s.last : Int) + 1)) ∧ AirAt w' base b (s.fly to t) ∧ KT airTs base.n w w' := by
  obtain ⟨fv, PF, hh⟩ := h
  obtain ⟨c0, c1, c2, hfz⟩ := hh.cells
  have f1 := hfz 1
  have H := hid hh
  have HV := hid hv
  have hbs := hh.lt
  have hn : s.l.length ≤ 2048 := by obtain ⟨_, _, h3, h4, _⟩ := hh.ok; omega
  obtain ⟨fa, fc, efv, hc1, hc2⟩ := hh.shape
  subst efv
  clear hfz hh hv
  go_enter Try.func24, Try.ntmps24
  go_wp2_with fail
  obtain ⟨w0, hw0⟩ : ∃ w0, w0 = w.setCell ⟨b, 1, none⟩ (.int .u64 ((s.last : Int) + 1)) := ⟨_, rfl⟩
  rw [← hw0]
  have hs0 : w0.heap.size = w.heap.size := by rw [hw0]; simp [World.setCell]
  have K0 := hid (show KT airTs base.n w w0 by rw [hw0]; exact H.out.ktS (kset _ _ _ _) (fun k _ e => .inl e) hb)
  have hk0 : Keeps (fun k => k = b) w w0 := by rw [hw0]; exact kset _ _ _ _
  have A0 : AirV w0 base b { s with last := s.last + 1 } (.slice fa s.l.length fc) PF := by
    obtain ⟨o1, o2, o3, o4, o5⟩ := H.out.ok
    refine ⟨?_, owns_by H.out.row (fun k hk => hk0.block k (World.ownsRow.lt H.out.row k hk).2 (H.out.apart (by decide) k hk)), H.out.list, fun x hx => (H.out.own x hx).to (fun k hk => hk0.block k ((H.out.own x hx).lt k hk).2 ?_), H.out.low, ⟨o1, (fun f hf => Nat.le_succ_of_le (o2 f hf)), o3, o4, o5⟩, H.out.far⟩
    · rw [hw0, heap_setCell_same _ _ _ _ _ _ H.out.head]
      simp
    · intro e
      obtain ⟨cur, hc⟩ := owns_ty (H.out.own x hx) k hk
      rw [e, H.out.head] at hc
      simp only [Option.some.injEq, Obj.cells.injEq] at hc
      exact absurd hc.2.1 (by decide)
  have V0 := hv0_own hk0 HV.out H.out.head (by decide)
  obtain ⟨w1, hw1⟩ : ∃ w1, w1 = w0.alloc (.cells #[.int .i64 to, .slice va t.length vc] 34) := ⟨_, rfl⟩
  rw [← hw1]
  have hb1 : Below w0.heap.size w0 w1 := by rw [hw1]; exact (Below.refl _ _).alloc (Nat.le_refl _) _
  have hs1 : w1.heap.size = w.heap.size + 1 := by rw [hw1]; simp [hs0]
  have g1 : w1.heap[w.heap.size]? = some (.cells #[.int .i64 to, .slice va t.length vc] 34 (0, 0)) := by rw [hw1, ← hs0]; exact heap_alloc_new w0 _
  have A1 := A0.below hb1
  have V1 := hid (V0.below hb1)
  have K1 := hid (show KT airTs base.n w w1 from K0.out.trans (KT.of_below hb1 (by omega)))
  have e0 : w1.drew.cell? ⟨w.heap.size, 0, none⟩ = some (.int .i64 to) := (cell_of_row _ _ _ _ _ _ g1).trans rfl
  have e1 : w1.drew.cell? ⟨w.heap.size, 1, none⟩ = some (.slice va t.length vc) := (cell_of_row _ _ _ _ _ _ g1).trans rfl
  obtain ⟨d0, d1, d2, dz⟩ := A1.cells
  have d1' : w1.drew.cell? ⟨b, 1, none⟩ = some (.int .u64 ((s.last : Int) + 1)) := d1
  have d2' : w1.drew.cell? ⟨b, 2, none⟩ = some (.slice fa s.l.length fc) := d2
  have H1 := hid A1
  have HS1 := hid hs1
  have HROW := hid (show (w1.alloc (.cells #[.int .u64 ((s.last : Int) + 1), .int .i64 to, .slice va t.length vc] 73)).drew.ownsRow base.n 73 3 (.slice fa s.l.length fc) s.l.length (PF.flatMap fcells) by
    rw [← H.out.len]
    have := owns_below H1.out.row (w' := (w1.alloc (.cells #[.int .u64 ((s.last : Int) + 1), .int .i64 to, .slice va t.length vc] 73)).drew) (below_dr ((Below.refl w1.heap.size w1).alloc (Nat.le_refl _) _))
    rw [H.out.len] at this ⊢
    exact this)
  have HSRC := hid (show SrcC (w1.alloc (.cells #[.int .u64 ((s.last : Int) + 1), .int .i64 to, .slice va t.length vc] 73)).drew (.slice (some ⟨w1.heap.size, 0, none⟩) 1 1) 1 [.int .u64 ((s.last : Int) + 1), .int .i64 to, .slice va t.length vc] from SrcC.lit w1 _ _ 1 _ rfl)
  have HONE := hid (show ∀ y ∈ [Value.int .u64 ((s.last : Int) + 1), .int .i64 to, .slice va t.length vc], y.oneCell' = true from by simp [Value.oneCell'])
  have HBL := hid (show Below w1.heap.size w1 (w1.alloc (.cells #[.int .u64 ((s.last : Int) + 1), .int .i64 to, .slice va t.length vc] 73)).drew from below_dr ((Below.refl w1.heap.size w1).alloc (Nat.le_refl _) _))
  have y2 : (w1.alloc (.cells #[.int .u64 ((s.last : Int) + 1), .int .i64 to, .slice va t.length vc] 73)).drew.cell? ⟨b, 2, none⟩ = some (.slice fa s.l.length fc) := (HBL.out.cell (p := ⟨b, 2, none⟩) (show b < w1.heap.size by omega)).trans d2
  have y1 : (w1.alloc (.cells #[.int .u64 ((s.last : Int) + 1), .int .i64 to, .slice va t.length vc] 73)).drew.cell? ⟨b, 1, none⟩ = some (.int .u64 ((s.last : Int) + 1)) := (HBL.out.cell (p := ⟨b, 1, none⟩) (show b < w1.heap.size by omega)).trans d1
  have HK := hid (show ∀ w5, (w1.alloc (.cells #[.int .u64 ((s.last : Int) + 1), .int .i64 to, .slice va t.length vc] 73)).drew.grownBy w5 (Value.slice fa s.l.length fc).ownBlock → w5.heap[b]? = some (.cells #[.int .i64 (s.room : Int), .int .u64 ((s.last + 1 : Nat) : Int), .slice fa s.l.length fc] 67 (0, 0)) ∧ KT airTs base.n w w5 ∧ (∀ x ∈ PF, Own w5 base.n x.2 x.1.t) ∧ Own w5 base.n (.slice va t.length vc) t from fun w5 hg => by
    have hA := H1.out.below HBL.out
    have kt := grown_kt hA (Nat.le_trans (show base.n ≤ w1.heap.size by omega) HBL.out.size) hg
    exact ⟨kt.block hA.head (by decide), (K1.out.trans (KT.of_below HBL.out (by omega))).trans (kt.mono (fun x hx => by simp at hx; subst hx; simp) (Nat.le_refl _)), fun x hx => (hA.own x hx).kt kt (by decide), (V1.out.below HBL.out).kt kt (by decide)⟩)
  have HFIN := hid (show ∀ w5 ad cap, (w1.alloc (.cells #[.int .u64 ((s.last : Int) + 1), .int .i64 to, .slice va t.length vc] 73)).drew.grownBy w5 (Value.slice fa s.l.length fc).ownBlock → w5.ownsRow base.n 73 3 (.slice ad (s.l.length + 1) cap) (s.l.length + 1) (PF.flatMap fcells ++ [.int .u64 ((s.last : Int) + 1), .int .i64 to, .slice va t.length vc]) → AirAt (w5.setCell ⟨b, 2, none⟩ (.slice ad (s.l.length + 1) cap)) base b (s.fly to t) ∧ KT airTs base.n w (w5.setCell ⟨b, 2, none⟩ (.slice ad (s.l.length + 1) cap)) from fun w5 ad cap hg ho => by
    obtain ⟨p1, p2, p3, p4⟩ := HK.out w5 hg
    obtain ⟨q1, q2⟩ := arv_push p1 ho p3 p4 H.out.list H.out.low H.out.far hvf (Ar.fly_ok H.out.ok to t hr ht) (by decide) (by decide)
    exact ⟨⟨_, _, q1⟩, p2.trans q2⟩)
  clear hw0 hw1 hb1 hs1 g1 A0 A1 V0 K0 hk0 d0 d1 d2 dz hs0 c0 c1 c2 f1
  go_region_law (refine appsst (by rfl) 65 73 (.tmp 16) (.tmp 23) rfl base.n 3 40 _ Try.underlying65 infoFl rfl (by decide) (.slice fa s.l.length fc) (.slice (some ⟨w1.heap.size, 0, none⟩) 1 1) s.l.length 1 (s.l.length + 1) _ _ rfl rfl HROW.out HSRC.out rfl HONE.out rfl (by omega) (by omega) (by have := HS1.out; simp; omega) ?_; intro ad cap w5 ho hg; have hhd := (HK.out w5 hg).1; have x2 : w5.cell? ⟨b, 2, none⟩ = some (.slice fa s.l.length fc) := (cell_of_row _ _ _ _ _ _ hhd).trans rfl; have x1 : w5.cell? ⟨b, 1, none⟩ = some (.int .u64 ((s.last + 1 : Nat) : Int)) := (cell_of_row _ _ _ _ _ _ hhd).trans rfl; have z2 : w5.frozen? ⟨b, 2, none⟩ = false := frozen_of_row _ _ _ _ _ hhd; have HO := hid ho; have HG := hid hg; clear ho hg hhd)
  all_goals go_wp2
  all_goals go_ret
  all_goals exact ⟨rfl, HFIN.out _ _ _ HG.out HO.out⟩

end Go.Proofs.Ytecnopopmonlpaa
