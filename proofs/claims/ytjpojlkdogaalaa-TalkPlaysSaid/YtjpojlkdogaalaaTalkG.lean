/-
  Layer 10: Say: its contract.
-/
import Derived.Test.YtjpojlkdogaalaaTalkF
namespace Go.Proofs.Ytjpojlkdogaalaa
open Go.RowKit
set_option linter.unusedVariables false
set_option linter.unusedSimpArgs false

theorem infoTh : (Try.prog.info? 76).map (fun i => (i.zero, i.size, i.bytes)) = some (some (.agg #[.slice none 0 0, .int .u64 0]), 2, 32) := by kernel_rfl

theorem Tk.say_l {s : Tk} (h : s.ok) (t : List UInt8) : (s.say t).l = s.l ++ [⟨t, s.clock⟩] := by
  have h1 := h.1
  show (s.all ++ [_]).drop s.done = s.all.drop s.done ++ [_]
  rw [List.drop_append_of_le_length h1]

/-- One more has been appended, and the head names the new row. -/
theorem said_v {w w5 w6 : World} {base : B9} {b : Nat} {s : Tk} {fv0 V v : Value} {PF : List (Th × Value)} {t : List UInt8} (h : TkV w base b s fv0 PF) (h1 : s.all.length < s.done + 256) (h2 : s.all.length < 1000000) (h3 : t.length ≤ 1984)
    (hp : ∀ x ∈ PF, Own w5 base.n x.2 x.1.t) (hv : Own w5 base.n v t) (hr : w5.ownsRow base.n 76 2 V (s.l.length + 1) (PF.flatMap tcells ++ [v, .int .u64 (s.clock : Int)])) (hk : Keeps (fun k => k = b) w5 w6)
    (hh : w6.heap[b]? = some (.cells #[.int .u8 s.node, .int .u32 s.epoch, .int .u32 s.life, .int .u32 (s.heard : Int), .int .u32 ((s.all.length : Int) + 1), V, .int .u64 (s.clock : Int)] 73 (0, 0)))
    (hb5 : ∃ c5, w5.heap[b]? = some (.cells c5 73 (0, 0))) (hvf : ∀ k, v.ownBlock = some k → base.P k) (hvl : ∀ k, (k = b ∨ V.ownBlock = some k) → base.Q k) :
    TkV w6 base b (s.say t) V (PF ++ [(⟨t, s.clock⟩, v)]) := by
  obtain ⟨c5, hc5⟩ := hb5
  have ne8 : ∀ (u : Value) (l : List UInt8) (m : Nat), Own w5 m u l → ∀ k, u.ownBlock = some k → k ≠ b := fun u l m ho k hk' e => by
    obtain ⟨cur, hc⟩ := owns_ty ho k hk'
    rw [e, hc5] at hc
    simp only [Option.some.injEq, Obj.cells.injEq] at hc
    exact absurd hc.2.1 (by decide)
  refine ⟨?_, ?_, ?_, ?_, h.low, Tk.ok_say h.ok t h1 h2 h3, ?_, hvl⟩
  · rw [hh]
    simp [Tk.say]
  · have e : (PF ++ [((⟨t, s.clock⟩ : Th), v)]).flatMap tcells = PF.flatMap tcells ++ [v, .int .u64 (s.clock : Int)] := by
      rw [List.flatMap_append]; simp [tcells]
    rw [e, show (PF ++ [((⟨t, s.clock⟩ : Th), v)]).length = s.l.length + 1 by rw [List.length_append, h.len]; simp]
    refine owns_by hr fun k hkk => hk.block k (World.ownsRow.lt hr k hkk).2 fun e => ?_
    obtain ⟨cur, hc⟩ := owns_ty hr k hkk
    rw [e, hc5] at hc
    simp only [Option.some.injEq, Obj.cells.injEq] at hc
    exact absurd hc.2.1 (by decide)
  · rw [Tk.say_l h.ok, h.list]; simp
  · intro x hx
    rcases List.mem_append.1 hx with hx | hx
    · exact (hp x hx).to fun k hk' => hk.block k ((hp x hx).lt k hk').2 (ne8 _ _ _ (hp x hx) k hk')
    · simp only [List.mem_singleton] at hx
      subst hx
      exact hv.to fun k hk' => hk.block k (hv.lt k hk').2 (ne8 _ _ _ hv k hk')
  · intro x hx
    rcases List.mem_append.1 hx with hx | hx
    · exact h.far x hx
    · simp only [List.mem_singleton] at hx
      subst hx
      exact hvf

/-- Bytes that a talk doesn't write: below its base, or in a block of bytes. -/
def Far (w : World) (n : Nat) (v : Value) (l : List UInt8) : Prop := Rd w v l ∧ ∀ x len cap, v = .slice (some x) len cap → l ≠ [] → x.block < n ∨ ∃ cs fr, w.heap[x.block]? = some (.cells cs 5 fr)

theorem Far.nil (w : World) (n : Nat) : Far w n (.slice none 0 0) [] := ⟨Rd.nil _, fun x len cap e => by cases e⟩

theorem Far.kt {ts : List TypeId} {n : Nat} {w w' : World} {v : Value} {l : List UInt8} (h : Far w n v l) (hk : KT ts n w w') (ht : 5 ∉ ts) : Far w' n v l := by
  have hb : ∀ x len cap, v = .slice (some x) len cap → l ≠ [] → w'.heap[x.block]? = w.heap[x.block]? := fun x len cap e hl => by
    rcases h.2 x len cap e hl with h1 | ⟨cs, fr, h1⟩
    · exact hk.below.block _ h1
    · rw [hk.block h1 ht, h1]
  refine ⟨?_, fun x len cap e hl => ?_⟩
  · obtain ⟨a, cap, rfl, h1, h2, h3, h4⟩ := h.1
    refine ⟨a, cap, rfl, h1, h2, h3, fun x hx i hi => ?_⟩
    subst hx
    have hne : l ≠ [] := fun e => by rw [e] at hi; cases hi
    have h5 := h4 x rfl i hi
    have h6 := hb x _ _ rfl hne
    rw [← h5]
    have h7 : w'.heap[(x.add i).block]? = w.heap[(x.add i).block]? := by
      have e2 : (x.add i).block = x.block := by unfold Addr.add; split <;> rfl
      rw [e2]; exact h6
    exact World.cell?_of_block (w := w) h7
  · rw [hb x len cap e hl]
    exact h.2 x len cap e hl

theorem Far.of_own {w : World} {m n : Nat} {v : Value} {l : List UInt8} (h : Own w m v l) : Far w n v l := by
  refine ⟨h.rd, fun x len cap e hl => ?_⟩
  rcases owns_shape h with ⟨e1, e2⟩ | ⟨g, c, e1, _⟩
  · rw [e1] at e; cases e
  · rw [e1] at e
    simp only [Value.slice.injEq, Option.some.injEq] at e
    obtain ⟨cur, hc⟩ := owns_ty h g (by rw [e1]; rfl)
    rw [← e.1]
    exact .inr ⟨_, _, hc⟩

theorem Far.of_low {w : World} {n : Nat} {v : Value} {l : List UInt8} (h : Rd w v l) (hn : w.heap.size ≤ n) : Far w n v l := by
  refine ⟨h, fun x len cap e hl => .inl ?_⟩
  obtain ⟨a, cap', rfl, h1, h2, h3, h4⟩ := h
  simp only [Value.slice.injEq] at e
  obtain ⟨rfl, _, _⟩ := e
  have h5 := h4 x rfl 0 (List.length_pos_iff.2 hl)
  have := World.block_lt_of_cell? _ _ h5
  have e2 : (x.add 0).block = x.block := by cases x; rfl
  omega

/-- A block that is new is written. -/
theorem KT.new {ts : List TypeId} {base g : Nat} {a w w' : World} (h : KT ts base a w) (hk : Keeps (fun k => k = g) w w') (hg : a.heap.size ≤ g) (hb : base ≤ g) (hl : g < w.heap.size) : KT ts base a w' :=
  ⟨h.keeps.trans' hk (fun i hi e => absurd hi (by omega)), h.below.trans ⟨hk.os, hk.tape, hk.output, hk.size, fun i hi => hk.block i (by omega) (by omega)⟩⟩

theorem KQ.new {base : B9} {g : Nat} {a w w' : World} (h : KQ base a w) (hk : Keeps (fun k => k = g) w w') (hg : a.heap.size ≤ g) (hb : base.n ≤ g) (hl : g < w.heap.size) : KQ base a w' :=
  ⟨h.kt.new hk hg hb hl, fun i hi hq => (hk.block i (Nat.lt_of_lt_of_le hi h.size) (by omega)).trans (h.q i hi hq)⟩

theorem PkB.kt {ts : List TypeId} {n g : Nat} {w w' : World} (h : PkB w g) (hk : KT ts n w w') (ht : 31 ∉ ts) : PkB w' g := by
  obtain ⟨c0, c1, c2, c3, c4, c5, c6, e⟩ := h
  exact ⟨c0, c1, c2, c3, c4, c5, c6, hk.block e ht⟩

theorem TkV.far' {w : World} {base : B9} {b : Nat} {s : Tk} {fv : Value} {PF : List (Th × Value)} (h : TkV w base b s fv PF) (P : Nat → Prop) (hP : ∀ k, k < w.heap.size → base.P k → P k) : TkV w ⟨base.n, P, base.Q⟩ b s fv PF :=
  ⟨h.head, h.row, h.list, h.own, h.low, h.ok, fun x hx k hk => hP k ((h.own x hx).lt k hk).2 (h.far x hx k hk), h.loc⟩

set_option maxRecDepth 100000 in
set_option maxHeartbeats 8000000 in
theorem say_yes (base : B9) (b : Nat) (s : Tk) (va : Option Addr) (vc : Nat) (t : List UInt8) (w : World) (h : TkAt w base b s) (hb : base.n ≤ w.heap.size) (hv : Far w base.n (.slice va t.length vc) t) (ht1 : t.length ≤ 1984) (h1 : s.l.length < 256) (h2 : s.all.length < 1000000) (hP : ∀ k, w.heap.size ≤ k → base.P k := by intros; trivial) (hQ : ∀ k, w.heap.size ≤ k → base.Q k := by intros; trivial) :
    Calls Try.prog 12 #[.pointer (some ⟨b, 0, none⟩), .slice va t.length vc] w fun e w' => ∃ xa xc, e = .returned (.tuple #[.agg #[.int .u8 s.node, .int .u32 s.epoch, .int .u32 s.life, .int .u32 ((s.all.length : Int) + 1), .int .u32 (s.heard : Int), .bool false, .slice xa t.length xc], .int .i64 0]) ∧ Own w' w.heap.size (.slice xa t.length xc) t ∧ TkAt w' ⟨base.n, fun k => base.P k ∧ (Value.slice xa t.length xc).ownBlock ≠ some k, base.Q⟩ b (s.say t) ∧ KQ base w w' := by
  obtain ⟨fv, PF, hh⟩ := h
  obtain ⟨fa, fc, efv, hc1, hc2⟩ := hh.shape
  subst efv
  obtain ⟨w1, hw1⟩ : ∃ w1, w1 = w.alloc (.cells #[.int .u8 0, .int .u32 0, .int .u32 0, .int .u32 0, .int .u32 0, .bool false, .slice none 0 0] 31) := ⟨_, rfl⟩
  obtain ⟨g1, hb1, _⟩ := box_facts _ _ _ _ _ _ _ _ w1 hw1
  have hs1 : w1.heap.size = w.heap.size + 1 := by rw [hw1]; simp
  have HA1 := hid (hh.below hb1)
  have HG1 := hid g1
  have HB1 := hid hb1
  have HW1 := hid hw1
  obtain ⟨c0, c1, c2, c3, c4, c5, c6, hf⟩ := HA1.out.cells
  have f4 := hf 4
  have hln : (s.l.length : Int) < 256 := by omega
  have hne : ((s.all.length : Int) == 4294967295) = false := by rw [beq_eq_false_iff_ne]; omega
  have htl : (t.length : Int) ≤ 1984 := by omega
  have HWR := hid (show IntKind.u32.wrap ((s.all.length : Int) + 1) = (s.all.length : Int) + 1 by rw [IntKind.wrap_u32]; omega)
  have HLL := hid s.l_len
  have hdn : s.done ≤ s.all.length := hh.ok.1
  have HBS := hid hb
  have HS1 := hid hs1
  have HBE := hid (show b ≠ w.heap.size by have := hh.lt; omega)
  rw [hw1] at c4 c5 f4
  clear hf hh g1 hb1 hw1 hs1 hb c0 c1 c2 c3 c6
  go_enter Try.func12, Try.ntmps12
  go_wp2_with fail
  rw [← HW1.out]
  obtain ⟨w2, hw2⟩ : ∃ w2, w2 = w1.setCell ⟨b, 4, none⟩ (.int .u32 ((s.all.length : Int) + 1)) := ⟨_, rfl⟩
  rw [← hw2]
  have hk2 : Keeps (fun k => k = b) w1 w2 := by rw [hw2]; exact kset _ _ _ _
  have hh2 : w2.heap[b]? = some (.cells #[.int .u8 s.node, .int .u32 s.epoch, .int .u32 s.life, .int .u32 (s.heard : Int), .int .u32 ((s.all.length : Int) + 1), .slice fa s.l.length fc, .int .u64 (s.clock : Int)] 73 (0, 0)) := by
    rw [hw2, heap_setCell_same _ _ _ _ _ _ HA1.out.head]
    simp
  have hs2 : w2.heap.size = w1.heap.size := by rw [hw2]; simp [World.setCell]
  have HK2 := hid hk2
  have HROW0 := hid (show w2.ownsRow base.n 76 2 (.slice fa s.l.length fc) s.l.length (PF.flatMap tcells) from (by
    have h0 := HA1.out.row
    rw [HA1.out.len] at h0
    exact owns_by h0 (fun k hk => hk2.block k (World.ownsRow.lt h0 k hk).2 (HA1.out.apart k hk))))
  have HOWN0 := hid (show ∀ x ∈ PF, Own w2 base.n x.2 x.1.t from fun x hx => (HA1.out.own x hx).to fun k hk => hk2.block k ((HA1.out.own x hx).lt k hk).2 (HA1.out.apart8 (HA1.out.own x hx) k hk).1)
  obtain ⟨wd, hwd⟩ : ∃ wd, wd = w2.drew := ⟨_, rfl⟩
  have HHwd := hid (show wd.heap[b]? = some (.cells #[.int .u8 s.node, .int .u32 s.epoch, .int .u32 s.life, .int .u32 (s.heard : Int), .int .u32 ((s.all.length : Int) + 1), .slice fa s.l.length fc, .int .u64 (s.clock : Int)] 73 (0, 0)) by rw [hwd]; exact hh2)
  have HROW := hid (show wd.ownsRow base.n 76 2 (.slice fa s.l.length fc) s.l.length (PF.flatMap tcells) from (by rw [hwd]; exact owns_below HROW0.out (below_dr (Below.refl _ _))))
  have HOWN := hid (show ∀ x ∈ PF, Own wd base.n x.2 x.1.t from (by rw [hwd]; exact fun x hx => (HOWN0.out x hx).below (below_dr (Below.refl _ _))))
  have HSwd := hid (show wd.heap.size = w.heap.size + 1 by rw [hwd]; show w2.heap.size = _; rw [hs2]; exact HS1.out)
  have HBN := hid (show base.n ≤ wd.heap.size by have := HSwd.out; have := HBS.out; omega)
  have hblt : b < wd.heap.size := (Array.getElem?_eq_some_iff.1 HHwd.out).1
  have HGwd := hid (show PkB wd w.heap.size by rw [hwd]; exact PkB.of (w := w1) ⟨_, _, _, _, _, _, _, HG1.out⟩ (hk2.block w.heap.size (by have := HS1.out; omega) (fun e => by
    have h9 := HA1.out.head
    rw [← e, HG1.out] at h9
    simp only [Option.some.injEq, Obj.cells.injEq] at h9
    exact absurd h9.2.1 (by decide))))
  have HKwd := hid (show KQ base w wd by rw [hwd]; exact ((KQ.of_below HB1.out HBS.out).trans (HA1.out.ktS hk2 (fun k _ e => .inl e) (by have := HS1.out; have := HBS.out; omega))).drew)
  have HV := hid hv
  have HRDd := hid (hv.kt HKwd.out.kt (by decide)).1
  have HUN := hid (show ∀ (W : World) (L : Array Bool), W.heap[b]? = some (.cells #[.int .u8 s.node, .int .u32 s.epoch, .int .u32 s.life, .int .u32 (s.heard : Int), .int .u32 ((s.all.length : Int) + 1), .slice fa s.l.length fc, .int .u64 (s.clock : Int)] 73 (0, 0)) → UntilAll [(16, (fun w' => w'.cell? ⟨b, 5, none⟩ = some (.slice fa s.l.length fc))), (16, (fun w' => w'.cell? ⟨b, 6, none⟩ = some (.int .u64 (s.clock : Int))))] L W from by
    intro W L hW c hc _
    simp only [List.mem_cons, List.not_mem_nil, or_false] at hc
    rcases hc with rfl | rfl
    · exact (cell_of_row _ _ _ _ _ _ hW).trans rfl
    · exact (cell_of_row _ _ _ _ _ _ hW).trans rfl)
  clear hw2 hk2 hh2 hs2 c4 c5 f4 hv
  refine Orders.begins (C := [(16, (fun w' => w'.cell? ⟨b, 5, none⟩ = some (.slice fa s.l.length fc))), (16, (fun w' => w'.cell? ⟨b, 6, none⟩ = some (.int .u64 (s.clock : Int))))]) (by kernel_rfl) ?_
  rw [← hwd]
  clear hwd
  refine Orders.take (fun _ => True) [] (i := 0) (v := ?_) rfl (by kernel_rfl) (by kernel_rfl) (by kernel_rfl) (fun _ _ _ h => h) (by kernel_rfl) (fun _ _ _ _ => trivial) (by kernel_rfl) (by kernel_rfl) (Or.inl ⟨by rfl, ?_⟩) (HUN.out _ _ HHwd.out) (fun HU => ?_)
  rotate_left
  · intro u hSw
    try dsimp only at hSw
    go_simp
    try (with_reducible rfl)
  clear HU
  try simp only [Act.put, List.getElem_toArray, List.getElem_cons_succ, List.getElem_cons_zero, List.setIfInBounds_toArray, List.set_cons_zero, List.set_cons_succ]
  refine Orders.take (fun _ => True) [] (i := 1) (v := ?_) rfl (by kernel_rfl) (by kernel_rfl) (by kernel_rfl) (fun _ _ _ h => h) (by kernel_rfl) (fun _ _ _ _ => trivial) (by kernel_rfl) (by kernel_rfl) (Or.inl ⟨by rfl, ?_⟩) (HUN.out _ _ HHwd.out) (fun HU => ?_)
  rotate_left
  · intro u hSw
    try dsimp only at hSw
    go_simp
    try (with_reducible rfl)
  clear HU
  try simp only [Act.put, List.getElem_toArray, List.getElem_cons_succ, List.getElem_cons_zero, List.setIfInBounds_toArray, List.set_cons_zero, List.set_cons_succ]
  refine Orders.take (fun _ => True) [] (i := 2) (v := ?_) rfl (by kernel_rfl) (by kernel_rfl) (by kernel_rfl) (fun _ _ _ h => h) (by kernel_rfl) (fun _ _ _ _ => trivial) (by kernel_rfl) (by kernel_rfl) (Or.inl ⟨by rfl, ?_⟩) (HUN.out _ _ HHwd.out) (fun HU => ?_)
  rotate_left
  · intro u hSw
    try dsimp only at hSw
    go_simp
    try (with_reducible rfl)
  clear HU
  try simp only [Act.put, List.getElem_toArray, List.getElem_cons_succ, List.getElem_cons_zero, List.setIfInBounds_toArray, List.set_cons_zero, List.set_cons_succ]
  refine Orders.take (fun _ => True) [] (i := 3) (v := ?_) rfl (by kernel_rfl) (by kernel_rfl) (by kernel_rfl) (fun _ _ _ h => h) (by kernel_rfl) (fun _ _ _ _ => trivial) (by kernel_rfl) (by kernel_rfl) (Or.inl ⟨by rfl, ?_⟩) (HUN.out _ _ HHwd.out) (fun HU => ?_)
  rotate_left
  · intro u hSw
    try dsimp only at hSw
    go_simp
    try (with_reducible rfl)
  clear HU
  try simp only [Act.put, List.getElem_toArray, List.getElem_cons_succ, List.getElem_cons_zero, List.setIfInBounds_toArray, List.set_cons_zero, List.set_cons_succ]
  refine Orders.take (fun w' => w'.cell? ⟨b, 5, none⟩ = some (.slice fa s.l.length fc)) [16] (i := 4) (v := ?_) rfl (by kernel_rfl) (by kernel_rfl) (by kernel_rfl) (fun _ _ _ h => h) (by kernel_rfl) (fun L u hd h => h (16, (fun w' => w'.cell? ⟨b, 5, none⟩ = some (.slice fa s.l.length fc))) (by simp) (hd 16 (by simp))) (by kernel_rfl) (by kernel_rfl) (Or.inl ⟨by rfl, ?_⟩) (HUN.out _ _ HHwd.out) (fun HU => ?_)
  rotate_left
  · intro u hSw
    try dsimp only at hSw
    go_simp
    try (with_reducible rfl)
  clear HU
  try simp only [Act.put, List.getElem_toArray, List.getElem_cons_succ, List.getElem_cons_zero, List.setIfInBounds_toArray, List.set_cons_zero, List.set_cons_succ]
  refine Orders.take (fun _ => True) [] (i := 5) (v := ?_) rfl (by kernel_rfl) (by kernel_rfl) (by kernel_rfl) (fun _ _ _ h => h) (by kernel_rfl) (fun _ _ _ _ => trivial) (by kernel_rfl) (by kernel_rfl) (Or.inl ⟨by rfl, ?_⟩) (HUN.out _ _ HHwd.out) (fun HU => ?_)
  rotate_left
  · intro u hSw
    try dsimp only at hSw
    go_simp
    try (with_reducible rfl)
  clear HU
  try simp only [Act.put, List.getElem_toArray, List.getElem_cons_succ, List.getElem_cons_zero, List.setIfInBounds_toArray, List.set_cons_zero, List.set_cons_succ]
  refine Orders.take (fun _ => True) [] (i := 7) (v := ?_) rfl (by kernel_rfl) (by kernel_rfl) (by kernel_rfl) (fun _ _ _ h => h) (by kernel_rfl) (fun _ _ _ _ => trivial) (by kernel_rfl) (by kernel_rfl) (Or.inl ⟨by rfl, ?_⟩) (HUN.out _ _ HHwd.out) (fun HU => ?_)
  rotate_left
  · intro u hSw
    try dsimp only at hSw
    go_simp
    try (with_reducible rfl)
  clear HU
  try simp only [Act.put, List.getElem_toArray, List.getElem_cons_succ, List.getElem_cons_zero, List.setIfInBounds_toArray, List.set_cons_zero, List.set_cons_succ]
  refine Orders.take (fun _ => True) [] (i := 8) (v := ?_) rfl (by kernel_rfl) (by kernel_rfl) (by kernel_rfl) (fun _ _ _ h => h) (by kernel_rfl) (fun _ _ _ _ => trivial) (by kernel_rfl) (by kernel_rfl) (Or.inl ⟨by rfl, ?_⟩) (HUN.out _ _ HHwd.out) (fun HU => ?_)
  rotate_left
  · intro u hSw
    try dsimp only at hSw
    go_simp
    try (with_reducible rfl)
  clear HU
  try simp only [Act.put, List.getElem_toArray, List.getElem_cons_succ, List.getElem_cons_zero, List.setIfInBounds_toArray, List.set_cons_zero, List.set_cons_succ]
  refine Orders.take (fun _ => True) [] (i := 9) (v := ?_) rfl (by kernel_rfl) (by kernel_rfl) (by kernel_rfl) (fun _ _ _ h => h) (by kernel_rfl) (fun _ _ _ _ => trivial) (by kernel_rfl) (by kernel_rfl) (Or.inl ⟨by rfl, ?_⟩) (HUN.out _ _ HHwd.out) (fun HU => ?_)
  rotate_left
  · intro u hSw
    try dsimp only at hSw
    go_simp
    try (with_reducible rfl)
  clear HU
  try simp only [Act.put, List.getElem_toArray, List.getElem_cons_succ, List.getElem_cons_zero, List.setIfInBounds_toArray, List.set_cons_zero, List.set_cons_succ]
  refine Orders.take (fun w' => w'.cell? ⟨b, 6, none⟩ = some (.int .u64 (s.clock : Int))) [16] (i := 10) (v := ?_) rfl (by kernel_rfl) (by kernel_rfl) (by kernel_rfl) (fun _ _ _ h => h) (by kernel_rfl) (fun L u hd h => h (16, (fun w' => w'.cell? ⟨b, 6, none⟩ = some (.int .u64 (s.clock : Int)))) (by simp) (hd 16 (by simp))) (by kernel_rfl) (by kernel_rfl) (Or.inl ⟨by rfl, ?_⟩) (HUN.out _ _ HHwd.out) (fun HU => ?_)
  rotate_left
  · intro u hSw
    try dsimp only at hSw
    go_simp
    try (with_reducible rfl)
  clear HU
  try simp only [Act.put, List.getElem_toArray, List.getElem_cons_succ, List.getElem_cons_zero, List.setIfInBounds_toArray, List.set_cons_zero, List.set_cons_succ]
  refine Orders.one (i := 6) (by kernel_rfl) rfl (fun K hK => ?_)
  go_simp
  refine (clone_any (.slice va t.length vc) t wd HRDd.out (by omega)).mono ?_
  rintro e w3 ⟨v', rfl, ho, hb3⟩
  obtain ⟨xa, xc, ex⟩ := rd_sl ho.rd
  subst ex
  have HH3 := hid ((hb3.block b hblt).trans HHwd.out)
  have HO3 := hid ho
  have HB3 := hid hb3
  clear ho hb3
  refine hK.out _ _ (HUN.out _ _ HH3.out) (fun HU => ?_)
  clear hK K HU
  try simp only [Act.put, List.getElem_toArray, List.getElem_cons_succ, List.getElem_cons_zero, List.setIfInBounds_toArray, List.set_cons_zero, List.set_cons_succ]
  refine Orders.take (fun _ => True) [] (i := 11) (v := ?_) rfl (by kernel_rfl) (by kernel_rfl) (by kernel_rfl) (fun _ _ _ h => h) (by kernel_rfl) (fun _ _ _ _ => trivial) (by kernel_rfl) (by kernel_rfl) (Or.inl ⟨by rfl, ?_⟩) (HUN.out _ _ HH3.out) (fun HU => ?_)
  rotate_left
  · intro u hSw
    try dsimp only at hSw
    go_simp
    try (with_reducible rfl)
  clear HU
  try simp only [Act.put, List.getElem_toArray, List.getElem_cons_succ, List.getElem_cons_zero, List.setIfInBounds_toArray, List.set_cons_zero, List.set_cons_succ]
  refine Orders.one (i := 12) (by kernel_rfl) rfl (fun K hK => ?_)
  go_simp
  have HL4 := hid (SrcC.lit w3 #[.slice xa t.length xc, .int .u64 (s.clock : Int)] 76 1 _ rfl)
  have hb4 : Below w3.heap.size w3 (w3.alloc (.cells #[.slice xa t.length xc, .int .u64 (s.clock : Int)] 76)) := (Below.refl _ _).alloc (Nat.le_refl _) _
  obtain ⟨w4, hw4⟩ : ∃ w4, w4 = w3.alloc (.cells #[.slice xa t.length xc, .int .u64 (s.clock : Int)] 76) := ⟨_, rfl⟩
  rw [← hw4] at HL4 hb4
  rw [← hw4]
  have HB4 := hid (HB3.out.trans (hb4.mono HB3.out.size))
  have HO4 := hid (HO3.out.below hb4)
  have HH4 := hid ((hb4.block b (Nat.lt_of_lt_of_le hblt HB3.out.size)).trans HH3.out)
  clear hw4 hb4
  refine hK.out _ _ (HUN.out _ _ HH4.out) (fun HU => ?_)
  clear hK K HU
  try simp only [Act.put, List.getElem_toArray, List.getElem_cons_succ, List.getElem_cons_zero, List.setIfInBounds_toArray, List.set_cons_zero, List.set_cons_succ]
  refine Orders.one (i := 13) (by kernel_rfl) rfl (fun K hK => ?_)
  refine appsst2 (by rfl) 70 76 (.tmp 41) (.tmp 49) rfl base.n 2 32 _ Try.underlying70 infoTh rfl (by decide) (.slice fa s.l.length fc) (.slice (some ⟨w3.heap.size, 0, none⟩) 1 1) s.l.length 1 (s.l.length + 1) (PF.flatMap tcells) _ rfl rfl (owns_below HROW.out HB4.out) HL4.out rfl (by simp [Value.oneCell']) rfl (by omega) (by omega) (Nat.le_trans HBN.out HB4.out.size) ?_
  intro ad cp w5 hr5 hg5 hl5
  have HL5 := hid hl5
  clear hl5
  have HK5 := hid (show KT [76] base.n w4 w5 from (by
    refine KT.of_keeps (Keeps.of_grown hg5) (fun k _ e => ?_) (Nat.le_trans HBN.out HB4.out.size)
    obtain ⟨cur, hc⟩ := owns_ty (owns_below HROW.out HB4.out) k e
    exact ⟨(World.ownsRow.lt HROW.out k e).1, _, _, _, hc, by simp⟩))
  have HH5 := hid (HK5.out.block HH4.out (by decide))
  have HR5 := hid hr5
  have HG5 := hid (Keeps.of_grown hg5)
  have c5 : w5.cell? ⟨b, 5, none⟩ = some (.slice fa s.l.length fc) := (cell_of_row _ _ _ _ _ _ HH5.out).trans rfl
  have f5 : w5.frozen? ⟨b, 5, none⟩ = false := frozen_of_row _ _ _ _ _ HH5.out
  clear hr5 hg5
  refine hK.out _ _ (HUN.out _ _ HH5.out) (fun HU => ?_)
  clear hK K HU
  try simp only [Act.put, List.getElem_toArray, List.getElem_cons_succ, List.getElem_cons_zero, List.setIfInBounds_toArray, List.set_cons_zero, List.set_cons_succ]
  refine Orders.take (fun _ => True) [] (i := 14) (v := ?_) rfl (by kernel_rfl) (by kernel_rfl) (by kernel_rfl) (fun _ _ _ h => h) (by kernel_rfl) (fun _ _ _ _ => trivial) (by kernel_rfl) (by kernel_rfl) (Or.inl ⟨by rfl, ?_⟩) (HUN.out _ _ HH5.out) (fun HU => ?_)
  rotate_left
  · intro u hSw
    try dsimp only at hSw
    go_simp
    try (with_reducible rfl)
  clear HU
  try simp only [Act.put, List.getElem_toArray, List.getElem_cons_succ, List.getElem_cons_zero, List.setIfInBounds_toArray, List.set_cons_zero, List.set_cons_succ]
  refine Orders.take (fun _ => True) [] (i := 15) (v := ?_) rfl (by kernel_rfl) (by kernel_rfl) (by kernel_rfl) (fun _ _ _ h => h) (by kernel_rfl) (fun _ _ _ _ => trivial) (by kernel_rfl) (by kernel_rfl) (Or.inl ⟨by rfl, ?_⟩) (HUN.out _ _ HH5.out) (fun HU => ?_)
  rotate_left
  · intro u hSw
    try dsimp only at hSw
    go_simp
    try (with_reducible rfl)
  clear HU
  try simp only [Act.put, List.getElem_toArray, List.getElem_cons_succ, List.getElem_cons_zero, List.setIfInBounds_toArray, List.set_cons_zero, List.set_cons_succ]
  refine Orders.one (i := 16) (by kernel_rfl) rfl (fun K hK => ?_)
  go_simp
  refine hK.out _ _ ?_ (fun HU => ?_)
  · intro c hc hl
    simp only [List.mem_cons, List.not_mem_nil, or_false] at hc
    rcases hc with rfl | rfl <;> exact absurd hl (fun h => Bool.noConfusion (h.symm.trans (by kernel_rfl : _ = true)))
  clear hK K HU
  try simp only [Act.put, List.getElem_toArray, List.getElem_cons_succ, List.getElem_cons_zero, List.setIfInBounds_toArray, List.set_cons_zero, List.set_cons_succ]
  refine Orders.ends (by kernel_rfl) ?_ _
  obtain ⟨w6, hw6⟩ : ∃ w6, w6 = w5.setCell ⟨b, 5, none⟩ (.slice ad (s.l.length + 1) cp) := ⟨_, rfl⟩
  rw [← hw6]
  have HK6 := hid (show Keeps (fun k => k = b) w5 w6 by rw [hw6]; exact kset _ _ _ _)
  have HHD6 := hid (show w6.heap[b]? = some (.cells #[.int .u8 s.node, .int .u32 s.epoch, .int .u32 s.life, .int .u32 (s.heard : Int), .int .u32 ((s.all.length : Int) + 1), .slice ad (s.l.length + 1) cp, .int .u64 (s.clock : Int)] 73 (0, 0)) by rw [hw6, heap_setCell_same _ _ _ _ _ _ HH5.out]; simp)
  have HT6 := hid (show TkV w6 base b (s.say t) (.slice ad (s.l.length + 1) cp) (PF ++ [(⟨t, s.clock⟩, .slice xa t.length xc)]) from (by
    refine said_v HA1.out (w5 := w5) (by have := HLL.out; omega) (by omega) ht1 (fun x hx => ?_) ?_ HR5.out HK6.out HHD6.out ⟨_, HH5.out⟩ (fun k hk => ?_) (fun k hk => ?_)
    · exact ((HOWN.out x hx).below HB4.out).kt HK5.out (by decide)
    · exact HO4.out.kt HK5.out (by decide) |>.base (fun k hk => Nat.le_trans HBN.out (HO4.out.lt k hk).1)
    · exact hP k (by have := (HO4.out.lt k hk).1; have := HSwd.out; omega)
    · rcases hk with rfl | hk
      · exact HA1.out.loc k (.inl rfl)
      · rcases HL5.out k hk with hk | hk
        · exact HA1.out.loc k (.inr hk)
        · exact hQ k (by have := HB4.out.size; have := HSwd.out; omega)))
  have HKK := hid (show KQ base w w6 from ((HKwd.out.trans (KQ.of_below HB4.out HBN.out)).trans ⟨HK5.out.mono (fun t ht => by simp only [List.mem_singleton] at ht; rw [ht]; simp) (Nat.le_refl _), fun k hk hq => HG5.out.block k hk (fun e => hq (HA1.out.loc k (.inr e)))⟩).trans ⟨KT.of_keeps HK6.out (fun k _ e => by subst e; exact ⟨HA1.out.low, _, _, _, HH5.out, by simp⟩) (Nat.le_trans HBN.out (Nat.le_trans HB4.out.size HK5.out.size)), fun k hk hq => HK6.out.block k hk (fun e => hq (HA1.out.loc k (.inl e)))⟩)
  have HP6 := hid (show PkB w6 w.heap.size from (((HGwd.out.below HB4.out).kt HK5.out (by decide))).of (HK6.out.block w.heap.size (by have := HSwd.out; have := HB4.out.size; have := HK5.out.size; omega) (by have := HA1.out.low; have := HBE.out; omega)))
  have HV6 := hid (HV.out.kt HKK.out.kt (by decide)).1
  have c4 : w6.cell? ⟨b, 4, none⟩ = some (.int .u32 ((s.all.length : Int) + 1)) := (cell_of_row _ _ _ _ _ _ HHD6.out).trans rfl
  have HS6 := hid (show w.heap.size + 1 ≤ w6.heap.size by have := HSwd.out; have := HB4.out.size; have := HK5.out.size; have := HK6.out.size; omega)
  clear hw6
  go_wp2_with fail
  refine (packet_any base b (s.say t) _ _ t w6 ⟨_, _, HT6.out⟩ HV6.out (by omega)).mono ?_
  rintro e w7 ⟨ya, yc, rfl, ho7, hb7⟩
  have HO7 := hid ho7
  have HB7 := hid hb7
  have HP7 := hid (HP6.out.below hb7)
  clear ho7 hb7
  go_wp2_with (first | (refine pk_st rfl (.tmp 4) (.tmp 59) rfl w.heap.size (.int .u8 s.node) (.int .u32 s.epoch) (.int .u32 s.life) (.int .u32 ((s.all.length : Int) + 1)) (.int .u32 (s.heard : Int)) (.bool false) (.slice ya t.length yc) rfl rfl HP7.out (by simp [Value.oneCell']) ?_) | fail)
  have kr := setRow_keeps w7 w.heap.size #[.int .u8 s.node, .int .u32 s.epoch, .int .u32 s.life, .int .u32 ((s.all.length : Int) + 1), .int .u32 (s.heard : Int), .bool false, .slice ya t.length yc]
  have h76 := HB7.out.size
  have h6 := HS6.out
  refine bodyPost_ret (results_pk2 rfl _ _ _ w.heap.size _ _ _ _ _ _ _ rfl rfl (HP7.out.row _ _ _ _ _ _ _)) rfl ⟨ya, yc, rfl, ?_, ?_, ?_⟩
  · exact (HO7.out.to (fun k hk => kr.block k (HO7.out.lt k hk).2 (by have := (HO7.out.lt k hk).1; omega))).base (fun k hk => by have := (HO7.out.lt k hk).1; omega)
  · have h7 := HT6.out.below HB7.out
    have h8 : TkV (w7.setRow w.heap.size #[.int .u8 s.node, .int .u32 s.epoch, .int .u32 s.life, .int .u32 ((s.all.length : Int) + 1), .int .u32 (s.heard : Int), .bool false, .slice ya t.length yc]) base b (s.say t) _ _ := h7.kt (ts := [31]) (b0 := base.n) (KT.of_keeps kr (fun k _ e => by
      obtain ⟨c0, c1, c2, c3, c4, c5, c6, e7⟩ := HP7.out
      subst e
      exact ⟨HBS.out, _, _, _, e7, by simp⟩) (by have := HBS.out; omega)) (by decide) (by decide) (by decide)
    exact ⟨_, _, ⟨h8.head, h8.row, h8.list, h8.own, h8.low, h8.ok, fun x hx k hk => ⟨h8.far x hx k hk, fun e => by have := (HO7.out.lt k e).1; have := ((HT6.out.own x hx).lt k hk).2; omega⟩, h8.loc⟩⟩
  · exact (HKK.out.trans (KQ.of_below HB7.out (by have := HBS.out; omega))).new kr (Nat.le_refl _) HBS.out (by omega)


end Go.Proofs.Ytjpojlkdogaalaa
