/-
  Layer 10: settle: its contract.
-/
import Derived.Test.YtjpojlkdogaalaaTalkE
import Derived.Test.YtjpojlkdogaalaaTalkD
import Derived.Test.YtjpojlkdogaalaaOrd
import Derived.Test.YtjpojlkdogaalaaAppR
namespace Go.Proofs.Ytjpojlkdogaalaa
open Go.RowKit
set_option linter.unusedVariables false
set_option linter.unusedSimpArgs false

theorem one_tcells {w : World} {base : Nat} {PF : List (Th × Value)} (h : ∀ x ∈ PF, Own w base x.2 x.1.t) : ∀ u ∈ PF.flatMap tcells, u.oneCell' = true := by
  intro u hu
  obtain ⟨x, hx, hu⟩ := List.mem_flatMap.1 hu
  obtain ⟨a, c, e⟩ := rd_sl (h x hx).rd
  simp only [tcells, List.mem_cons, List.not_mem_nil, or_false] at hu
  rcases hu with rfl | rfl
  · rw [e]; rfl
  · rfl

/-- The first ones are gone from the row, and the head names what is left. -/
theorem settled {w2 w3 : World} {base : B9} {b g fc ack : Nat} {s : Tk} {PF : List (Th × Value)} (h : TkV w2 base b s (.slice (some ⟨g, 0, none⟩) s.l.length fc) PF)
    (hr : w3.ownsRow base.n 76 2 (.slice (some ⟨g, 0, none⟩) (s.l.length - (ack - s.done)) fc) (s.l.length - (ack - s.done)) ((PF.flatMap tcells).drop ((ack - s.done) * 2))) (hk : Keeps (fun k => k = g) w2 w3)
    (hh : w3.heap[b]? = some (.cells #[.int .u8 s.node, .int .u32 s.epoch, .int .u32 s.life, .int .u32 (s.heard : Int), .int .u32 (s.all.length : Int), .slice (some ⟨g, 0, none⟩) s.l.length fc, .int .u64 (s.clock : Int)] 73 (0, 0))) (h1 : s.done < ack) (h2 : ack ≤ s.all.length) :
    TkV (w3.setCell ⟨b, 5, none⟩ (.slice (some ⟨g, 0, none⟩) (s.l.length - (ack - s.done)) fc)) base b (s.settle ack) (.slice (some ⟨g, 0, none⟩) (s.l.length - (ack - s.done)) fc) (PF.drop (ack - s.done)) := by
  have kb := kset w3 b 5 (.slice (some ⟨g, 0, none⟩) (s.l.length - (ack - s.done)) fc)
  have hgb : g ≠ b := h.apart g rfl
  have hm : max s.done ack = ack := by omega
  have hPl := h.len
  refine ⟨?_, ?_, ?_, ?_, h.low, Tk.ok_settle h.ok ack h2, ?_, h.loc⟩
  · rw [heap_setCell_same _ _ _ _ _ _ hh]
    simp [Tk.settle]
  · rw [← tcells_drop, show (PF.drop (ack - s.done)).length = s.l.length - (ack - s.done) by rw [List.length_drop, hPl]]
    exact owns_by hr (fun k hk' => kb.block k (World.ownsRow.lt hr k hk').2 (by have e : g = k := Option.some.inj hk'; omega))
  · show s.all.drop (max s.done ack) = _
    rw [hm, List.map_drop, ← h.list]
    show _ = (s.all.drop s.done).drop _
    rw [List.drop_drop]
    congr 1
    omega
  · intro x hx
    have hx' := List.mem_of_mem_drop hx
    have ho := h.own x hx'
    refine (ho.to (w' := w3) fun k hk' => hk.block k (ho.lt k hk').2 (fun e => (h.apart8 ho k hk').2 (by rw [e]; rfl))).to fun k hk' => kb.block k ?_ (h.apart8 ho k hk').1
    exact Nat.lt_of_lt_of_le (ho.lt k hk').2 hk.size
  · intro x hx
    exact h.far x (List.mem_of_mem_drop hx)

set_option maxRecDepth 100000 in
set_option maxHeartbeats 8000000 in
theorem settle_any (base : B9) (b ack : Nat) (s : Tk) (w : World) (h : TkAt w base b s) (hb : base.n ≤ w.heap.size) (ha : ack ≤ s.all.length) :
    Calls Try.prog 31 #[.pointer (some ⟨b, 0, none⟩), .int .u32 (ack : Int)] w fun e w' => e = .returned (.tuple #[]) ∧ TkAt w' base b (s.settle ack) ∧ KQ base w w' := by
  by_cases hd : ack ≤ s.done
  · have e : s.settle ack = s := by unfold Tk.settle; rw [Nat.max_eq_left hd]
    rw [e]
    have hlt : ¬ (s.done : Int) < (ack : Int) := by omega
    have H := hid h
    clear h e hd
    go_enter Try.func31, Try.ntmps31
    go_wp2_with (go_at_call 30; refine (answered_any base b s w H.out).mono ?_; rintro e w' ⟨rfl, rfl⟩)
    go_end0
    exact ⟨rfl, H.out.below (below_dr (Below.refl _ _)), (KQ.refl _ _).drew⟩
  · have hlt : (s.done : Int) < (ack : Int) := by omega
    have HWD := hid h
    obtain ⟨fv, PF, hh⟩ := h
    obtain ⟨fa, fc, efv, hc1, hc2⟩ := hh.shape
    subst efv
    have HLL := hid s.l_len
    have hll := HLL.out
    have hdn : s.done ≤ s.all.length := hh.ok.1
    have hal : s.all.length ≤ 1000000 := hh.ok.2.1
    have hl1 : s.l.length ≤ 1000000 := by omega
    rcases owns_shape hh.row with ⟨e0, e1⟩ | ⟨g, gc, eg, _⟩
    · rw [hh.len] at e1; omega
    simp only [Value.slice.injEq] at eg
    obtain ⟨rfl, -, -⟩ := eg
    have HHW := hid hh
    obtain ⟨wd, hwd⟩ : ∃ wd, wd = (w.drew).drew := ⟨_, rfl⟩
    have HAwd := hid (show TkV wd base b s (.slice (some ⟨g, 0, none⟩) s.l.length fc) PF by rw [hwd]; exact (hh.below (below_dr (Below.refl _ _))).below (below_dr (Below.refl _ _)))
    have HHwd := hid HAwd.out.head
    have HKwd := hid (show KQ base w wd by rw [hwd]; exact (KQ.refl _ _).drew.drew)
    have HSwd := hid (show wd.heap.size = w.heap.size by rw [hwd]; rfl)
    have HONE := hid (one_tcells hh.own)
    have HUN := hid (show ∀ (W : World) (L : Array Bool), W.heap[b]? = some (.cells #[.int .u8 s.node, .int .u32 s.epoch, .int .u32 s.life, .int .u32 (s.heard : Int), .int .u32 (s.all.length : Int), .slice (some ⟨g, 0, none⟩) s.l.length fc, .int .u64 (s.clock : Int)] 73 (0, 0)) → UntilAll [(13, (fun w' => w'.cell? ⟨b, 5, none⟩ = some (.slice (some ⟨g, 0, none⟩) s.l.length fc)))] L W from by
      intro W L hW c hc _
      simp only [List.mem_cons, List.not_mem_nil, or_false] at hc
      subst hc
      exact (cell_of_row _ _ _ _ _ _ hW).trans rfl)
    have HW1 := hid (show IntKind.u32.wrap ((ack : Int) - (s.done : Int)) = ((ack - s.done : Nat) : Int) by rw [IntKind.wrap_u32]; omega)
    have HW2 := hid (show IntKind.i64.wrap ((ack - s.done : Nat) : Int) = ((ack - s.done : Nat) : Int) by rw [IntKind.wrap_i64]; omega)
    have hd' : s.done < ack := by omega
    have hgt : ack - s.done ≤ s.l.length := by omega
    clear hd hh hll
    go_enter Try.func31, Try.ntmps31
    go_wp2_with (go_at_call 30; refine (answered_any base b s w HWD.out).mono ?_; rintro e w' ⟨rfl, rfl⟩)
    refine Orders.begins (C := [(13, (fun w' => w'.cell? ⟨b, 5, none⟩ = some (.slice (some ⟨g, 0, none⟩) s.l.length fc)))]) (by kernel_rfl) ?_
    rw [← hwd]
    clear hwd
    refine Orders.take (fun _ => True) [] (i := 0) (v := ?_) rfl (by kernel_rfl) (by kernel_rfl) (by kernel_rfl) (fun _ _ _ h => h) (by kernel_rfl) (fun _ _ _ _ => trivial) (by kernel_rfl) (by kernel_rfl) (Or.inl ⟨by rfl, ?_⟩) (HUN.out _ _ HHwd.out) (fun HU => ?_)
    rotate_left
    · intro u hSw
      try dsimp only at hSw
      go_simp
      try (with_reducible rfl)
    clear HU
    try simp only [Act.put, List.getElem_toArray, List.getElem_cons_succ, List.getElem_cons_zero, List.setIfInBounds_toArray, List.set_cons_zero, List.set_cons_succ]
    refine Orders.take (fun _ => True) [] (i := 1) (v := ?_) rfl (by kernel_rfl) (by kernel_rfl) (by kernel_rfl) (fun _ _ _ h => h) (by kernel_rfl) (fun _ _ _ _ => trivial) (by kernel_rfl) (by kernel_rfl) (Or.inl ⟨by rfl, ?_⟩) (HUN.out _ _ HHwd.out) (fun HU => ?_)
    rotate_left
    · intro u hSw
      try dsimp only at hSw
      go_simp
      try (with_reducible rfl)
    clear HU
    try simp only [Act.put, List.getElem_toArray, List.getElem_cons_succ, List.getElem_cons_zero, List.setIfInBounds_toArray, List.set_cons_zero, List.set_cons_succ]
    refine Orders.take (fun _ => True) [] (i := 2) (v := ?_) rfl (by kernel_rfl) (by kernel_rfl) (by kernel_rfl) (fun _ _ _ h => h) (by kernel_rfl) (fun _ _ _ _ => trivial) (by kernel_rfl) (by kernel_rfl) (Or.inl ⟨by rfl, ?_⟩) (HUN.out _ _ HHwd.out) (fun HU => ?_)
    rotate_left
    · intro u hSw
      try dsimp only at hSw
      go_simp
      try (with_reducible rfl)
    clear HU
    try simp only [Act.put, List.getElem_toArray, List.getElem_cons_succ, List.getElem_cons_zero, List.setIfInBounds_toArray, List.set_cons_zero, List.set_cons_succ]
    refine Orders.take (fun _ => True) [] (i := 3) (v := ?_) rfl (by kernel_rfl) (by kernel_rfl) (by kernel_rfl) (fun _ _ _ h => h) (by kernel_rfl) (fun _ _ _ _ => trivial) (by kernel_rfl) (by kernel_rfl) (Or.inl ⟨by rfl, ?_⟩) (HUN.out _ _ HHwd.out) (fun HU => ?_)
    rotate_left
    · intro u hSw
      try dsimp only at hSw
      go_simp
      try (with_reducible rfl)
    clear HU
    try simp only [Act.put, List.getElem_toArray, List.getElem_cons_succ, List.getElem_cons_zero, List.setIfInBounds_toArray, List.set_cons_zero, List.set_cons_succ]
    refine Orders.take (fun w' => w'.cell? ⟨b, 5, none⟩ = some (.slice (some ⟨g, 0, none⟩) s.l.length fc)) [13] (i := 4) (v := ?_) rfl (by kernel_rfl) (by kernel_rfl) (by kernel_rfl) (fun _ _ _ h => h) (by kernel_rfl) (fun L u hd h => h (13, (fun w' => w'.cell? ⟨b, 5, none⟩ = some (.slice (some ⟨g, 0, none⟩) s.l.length fc))) (by simp) (hd 13 (by simp))) (by kernel_rfl) (by kernel_rfl) (Or.inl ⟨by rfl, ?_⟩) (HUN.out _ _ HHwd.out) (fun HU => ?_)
    rotate_left
    · intro u hSw
      try dsimp only at hSw
      go_simp
      try (with_reducible rfl)
    clear HU
    try simp only [Act.put, List.getElem_toArray, List.getElem_cons_succ, List.getElem_cons_zero, List.setIfInBounds_toArray, List.set_cons_zero, List.set_cons_succ]
    refine Orders.take (fun _ => True) [] (i := 5) (v := ?_) rfl (by kernel_rfl) (by kernel_rfl) (by kernel_rfl) (fun _ _ _ h => h) (by kernel_rfl) (fun _ _ _ _ => trivial) (by kernel_rfl) (by kernel_rfl) (Or.inl ⟨by rfl, ?_⟩) (HUN.out _ _ HHwd.out) (fun HU => ?_)
    rotate_left
    · intro u hSw
      try dsimp only at hSw
      go_simp
      try (with_reducible rfl)
    clear HU
    try simp only [Act.put, List.getElem_toArray, List.getElem_cons_succ, List.getElem_cons_zero, List.setIfInBounds_toArray, List.set_cons_zero, List.set_cons_succ]
    refine Orders.take (fun _ => True) [] (i := 6) (v := ?_) rfl (by kernel_rfl) (by kernel_rfl) (by kernel_rfl) (fun _ _ _ h => h) (by kernel_rfl) (fun _ _ _ _ => trivial) (by kernel_rfl) (by kernel_rfl) (Or.inl ⟨by rfl, ?_⟩) (HUN.out _ _ HHwd.out) (fun HU => ?_)
    rotate_left
    · intro u hSw
      try dsimp only at hSw
      go_simp
      try (with_reducible rfl)
    clear HU
    try simp only [Act.put, List.getElem_toArray, List.getElem_cons_succ, List.getElem_cons_zero, List.setIfInBounds_toArray, List.set_cons_zero, List.set_cons_succ]
    refine Orders.one (i := 7) (by kernel_rfl) rfl (fun K hK => ?_)
    go_simp
    refine (answered_any base b s wd ⟨_, _, HAwd.out⟩).mono ?_
    rintro e w2 ⟨rfl, hw2⟩
    have HA2 := hid (show TkV w2 base b s (.slice (some ⟨g, 0, none⟩) s.l.length fc) PF by rw [← hw2]; exact HAwd.out.below (below_dr (Below.refl _ _)))
    have HH2 := hid HA2.out.head
    have HK2 := hid (show KQ base w w2 by rw [← hw2]; exact HKwd.out.drew)
    have HS2 := hid (show w2.heap.size = w.heap.size by rw [← hw2]; exact HSwd.out)
    clear hw2
    refine hK.out _ _ (HUN.out _ _ HH2.out) (fun HU => ?_)
    clear hK K HU
    try simp only [Act.put, List.getElem_toArray, List.getElem_cons_succ, List.getElem_cons_zero, List.setIfInBounds_toArray, List.set_cons_zero, List.set_cons_succ]
    refine Orders.take (fun _ => True) [] (i := 8) (v := ?_) rfl (by kernel_rfl) (by kernel_rfl) (by kernel_rfl) (fun _ _ _ h => h) (by kernel_rfl) (fun _ _ _ _ => trivial) (by kernel_rfl) (by kernel_rfl) (Or.inl ⟨by rfl, ?_⟩) (HUN.out _ _ HH2.out) (fun HU => ?_)
    rotate_left
    · intro u hSw
      try dsimp only at hSw
      go_simp
      try (with_reducible rfl)
    clear HU
    try simp only [Act.put, List.getElem_toArray, List.getElem_cons_succ, List.getElem_cons_zero, List.setIfInBounds_toArray, List.set_cons_zero, List.set_cons_succ]
    refine Orders.take (fun _ => True) [] (i := 9) (v := ?_) rfl (by kernel_rfl) (by kernel_rfl) (by kernel_rfl) (fun _ _ _ h => h) (by kernel_rfl) (fun _ _ _ _ => trivial) (by kernel_rfl) (by kernel_rfl) (Or.inl ⟨by rfl, ?_⟩) (HUN.out _ _ HH2.out) (fun HU => ?_)
    rotate_left
    · intro u hSw
      try dsimp only at hSw
      try rw [HW1.out]
      try rw [HW2.out]
      go_simp
      try (with_reducible rfl)
    clear HU
    try simp only [Act.put, List.getElem_toArray, List.getElem_cons_succ, List.getElem_cons_zero, List.setIfInBounds_toArray, List.set_cons_zero, List.set_cons_succ]
    refine Orders.one (i := 10) (by kernel_rfl) rfl (fun K hK => ?_)
    go_simp
    try rw [HW2.out]
    refine (delete_front w2 base.n g s.l.length fc (ack - s.done) (PF.flatMap tcells) (by have := HA2.out.row; rwa [HA2.out.len] at this) (by omega) hgt hl1 HONE.out).mono ?_
    rintro e w3 ⟨rfl, hr3, hk3⟩
    have HH3 := hid ((hk3.block b (HA2.out.lt) (HA2.out.apart g rfl |>.symm)).trans HH2.out)
    have HR3 := hid hr3
    have HK3 := hid hk3
    have c5 : w3.cell? ⟨b, 5, none⟩ = some (.slice (some ⟨g, 0, none⟩) s.l.length fc) := (cell_of_row _ _ _ _ _ _ HH3.out).trans rfl
    have f5 : w3.frozen? ⟨b, 5, none⟩ = false := frozen_of_row _ _ _ _ _ HH3.out
    clear hr3 hk3
    refine hK.out _ _ (HUN.out _ _ HH3.out) (fun HU => ?_)
    clear hK K HU
    try simp only [Act.put, List.getElem_toArray, List.getElem_cons_succ, List.getElem_cons_zero, List.setIfInBounds_toArray, List.set_cons_zero, List.set_cons_succ]
    refine Orders.take (fun _ => True) [] (i := 11) (v := ?_) rfl (by kernel_rfl) (by kernel_rfl) (by kernel_rfl) (fun _ _ _ h => h) (by kernel_rfl) (fun _ _ _ _ => trivial) (by kernel_rfl) (by kernel_rfl) (Or.inl ⟨by rfl, ?_⟩) (HUN.out _ _ HH3.out) (fun HU => ?_)
    rotate_left
    · intro u hSw
      try dsimp only at hSw
      go_simp
      try (with_reducible rfl)
    clear HU
    try simp only [Act.put, List.getElem_toArray, List.getElem_cons_succ, List.getElem_cons_zero, List.setIfInBounds_toArray, List.set_cons_zero, List.set_cons_succ]
    refine Orders.take (fun _ => True) [] (i := 12) (v := ?_) rfl (by kernel_rfl) (by kernel_rfl) (by kernel_rfl) (fun _ _ _ h => h) (by kernel_rfl) (fun _ _ _ _ => trivial) (by kernel_rfl) (by kernel_rfl) (Or.inl ⟨by rfl, ?_⟩) (HUN.out _ _ HH3.out) (fun HU => ?_)
    rotate_left
    · intro u hSw
      try dsimp only at hSw
      go_simp
      try (with_reducible rfl)
    clear HU
    try simp only [Act.put, List.getElem_toArray, List.getElem_cons_succ, List.getElem_cons_zero, List.setIfInBounds_toArray, List.set_cons_zero, List.set_cons_succ]
    refine Orders.one (i := 13) (by kernel_rfl) rfl (fun K hK => ?_)
    go_simp
    refine hK.out _ _ ?_ (fun HU => ?_)
    · intro c hc hl
      simp only [List.mem_cons, List.not_mem_nil, or_false] at hc
      rcases hc with rfl <;> exact absurd hl (fun h => Bool.noConfusion (h.symm.trans (by kernel_rfl : _ = true)))
    clear hK K HU
    try simp only [Act.put, List.getElem_toArray, List.getElem_cons_succ, List.getElem_cons_zero, List.setIfInBounds_toArray, List.set_cons_zero, List.set_cons_succ]
    refine Orders.ends (by kernel_rfl) ?_ _
    go_wp2_with fail
    go_end0
    refine ⟨rfl, ?_, ?_⟩
    · exact ⟨_, _, settled HA2.out HR3.out HK3.out HH3.out (by omega) (by omega)⟩
    · refine HK2.out.trans (HA2.out.ktS (S := fun k => k = b ∨ k = g) ((HK3.out.mono (fun i hi e => Or.inr e)).trans ((kset _ _ _ _).mono (fun i hi e => Or.inl e))) (fun k _ e => ?_) (by have := HS2.out; omega))
      rcases e with e | e
      · exact .inl e
      · exact .inr (congrArg some e.symm)

end Go.Proofs.Ytjpojlkdogaalaa
