/-
  Asks that came in; a row of starts; Plan.
-/
import Derived.Test.YtecojmpiaaehlaaPlR
namespace Go.Proofs.Ytecojmpiaaehlaa
open Go.RowKit Go.Shelf
set_option linter.unusedVariables false

/-- A slice of asks reads so. -/
def RdA (w : World) (v : Value) (L : List (Int × Int)) : Prop :=
  ∃ a cap, v = .slice a L.length cap ∧ L.length ≤ cap ∧ cap ≤ 9223372036854775807 ∧
    ∀ (j : Nat) (x : Int × Int), L[j]? = some x → ∃ b off, a = some ⟨b, off, none⟩ ∧ b < w.heap.size ∧ w.rangeAt b (off + j * 2) [.int .i64 x.1, .int .i64 x.2]
theorem rangeAt_of {w w' : World} {b o : Nat} {cs : List Value} (h : w.rangeAt b o cs) (hb : w'.heap[b]? = w.heap[b]?) : w'.rangeAt b o cs := fun j v hv => by
  have e : w'.cell? ⟨b, o + j, none⟩ = w.cell? ⟨b, o + j, none⟩ := World.cell?_of_block (w := w) hb
  rw [e]; exact h j v hv
theorem RdA.all {w w' : World} {v : Value} {L : List (Int × Int)} (h : RdA w v L) (hb : Below w.heap.size w w') : RdA w' v L := by
  obtain ⟨a, cap, rfl, h1, h2, h3⟩ := h
  refine ⟨a, cap, rfl, h1, h2, fun j x hj => ?_⟩
  obtain ⟨b, off, h4, h5, h6⟩ := h3 j x hj
  exact ⟨b, off, h4, by have := hb.size; omega, rangeAt_of h6 (hb.block b h5)⟩
theorem RdA.len {w : World} {v : Value} {L : List (Int × Int)} (h : RdA w v L) : ∃ a cap, v = .slice a L.length cap ∧ L.length ≤ cap ∧ cap ≤ 9223372036854775807 := by
  obtain ⟨a, cap, rfl, h1, h2, h3⟩ := h
  exact ⟨a, cap, rfl, h1, h2⟩
theorem RdA.at {w : World} {a : Option Addr} {n cap : Nat} {L : List (Int × Int)} (h : RdA w (.slice a n cap) L) (j : Nat) (x : Int × Int) (hj : L[j]? = some x) :
    ∃ b off, a = some ⟨b, off, none⟩ ∧ b < w.heap.size ∧ w.rangeAt b (off + j * 2) [.int .i64 x.1, .int .i64 x.2] := by
  obtain ⟨a', cap', e, h1, h2, h3⟩ := h
  simp only [Value.slice.injEq] at e
  obtain ⟨rfl, -, -⟩ := e
  exact h3 j x hj

/-- A start lies there; its nodes are the call's own. -/
def StAt (w : World) (base b off : Nat) (s : Found) : Prop :=
  ∃ u, w.rangeAt b off [.int .i64 (stA s : Nat), .int .i64 (stR s : Nat), u, .bool s.isSome] ∧ w.ownsRow base 3 1 u (stN s).length ((stN s).map iv)
/-- A row of starts. -/
def StRow (w : World) (base : Nat) (T : TypeId) (v : Value) (S : List Found) : Prop :=
  (v = .slice none 0 0 ∧ S = []) ∨ ∃ b cap, v = .slice (some ⟨b, 0, none⟩) S.length cap ∧ S.length ≤ cap ∧ cap ≤ 9223372036854775807 ∧ base ≤ b ∧ (∃ z : Array Value, w.heap[b]? = some (.cells z T (0, 0))) ∧
    ∀ (j : Nat) (s : Found), S[j]? = some s → StAt w base b (j * 4) s
theorem StAt.to {w w' : World} {base b off : Nat} {s : Found} (h : StAt w base b off s) (hb : w'.heap[b]? = w.heap[b]?) (ho : ∀ q, base ≤ q → q < w.heap.size → (∃ cur, w.heap[q]? = some (.cells cur 3 (0, 0))) → w'.heap[q]? = w.heap[q]?) : StAt w' base b off s := by
  obtain ⟨u, h1, h2⟩ := h
  exact ⟨u, rangeAt_of h1 hb, owns_by h2 fun q hq => ho q (World.ownsRow.lt h2 q hq).1 (World.ownsRow.lt h2 q hq).2 (owns_ty h2 q hq)⟩
theorem StAt.below {w w' : World} {base b off : Nat} {s : Found} (h : StAt w base b off s) (hb : b < w.heap.size) (hB : Below w.heap.size w w') : StAt w' base b off s :=
  h.to (hB.block b hb) fun q _ hq _ => hB.block q hq
theorem StAt.base {w : World} {base base' b off : Nat} {s : Found} (h : StAt w base b off s) (hb : base' ≤ base) : StAt w base' b off s := by
  obtain ⟨u, h1, h2⟩ := h
  exact ⟨u, h1, owns_base h2 hb⟩
theorem StRow.below {w w' : World} {base : Nat} {T : TypeId} {v : Value} {S : List Found} (h : StRow w base T v S) (hB : Below w.heap.size w w') : StRow w' base T v S := by
  rcases h with h | ⟨b, cap, rfl, h1, h2, h3, ⟨z, hz⟩, h4⟩
  · exact .inl h
  · have hb := (Array.getElem?_eq_some_iff.1 hz).1
    exact .inr ⟨b, cap, rfl, h1, h2, h3, ⟨z, (hB.block b hb).trans hz⟩, fun j s hj => (h4 j s hj).below hb hB⟩
theorem StRow.base {w : World} {base base' : Nat} {T : TypeId} {v : Value} {S : List Found} (h : StRow w base T v S) (hb : base' ≤ base) : StRow w base' T v S := by
  rcases h with h | ⟨b, cap, rfl, h1, h2, h3, hz, h4⟩
  · exact .inl h
  · exact .inr ⟨b, cap, rfl, h1, h2, by omega, hz, fun j s hj => (h4 j s hj).base hb⟩
theorem StRow.len {w : World} {base : Nat} {T : TypeId} {v : Value} {S : List Found} (h : StRow w base T v S) : ∃ a cap, v = .slice a S.length cap ∧ S.length ≤ cap ∧ cap ≤ 9223372036854775807 := by
  rcases h with ⟨rfl, rfl⟩ | ⟨b, cap, rfl, h1, h2, _⟩
  · exact ⟨none, 0, rfl, Nat.le_refl _, by omega⟩
  · exact ⟨_, cap, rfl, h1, h2⟩
theorem StRow.at {w : World} {base : Nat} {T : TypeId} {a : Option Addr} {n cap : Nat} {S : List Found} (h : StRow w base T (.slice a n cap) S) (j : Nat) (s : Found) (hj : S[j]? = some s) :
    ∃ b, a = some ⟨b, 0, none⟩ ∧ b < w.heap.size ∧ base ≤ b ∧ StAt w base b (j * 4) s := by
  rcases h with ⟨_, rfl⟩ | ⟨b, cap', e, h1, h2, h3, ⟨z, hz⟩, h4⟩
  · simp at hj
  · simp only [Value.slice.injEq] at e
    obtain ⟨rfl, -, -⟩ := e
    exact ⟨b, rfl, (Array.getElem?_eq_some_iff.1 hz).1, h3, h4 j s hj⟩

theorem heap_setCells_ne (b q : Nat) (hq : q ≠ b) : ∀ (vs : List Value) (o : Nat) (w : World), (w.setCells b o vs).heap[q]? = w.heap[q]?
  | [], _, _ => rfl
  | v :: r, o, w => by
    rw [World.setCells, heap_setCells_ne b q hq r]
    exact Below.heap_setCell _ _ _ _ hq
theorem heap_setCells_blk (b : Nat) (t : TypeId) (fr : Nat × Nat) : ∀ (vs : List Value) (o : Nat) (w : World) (z : Array Value), w.heap[b]? = some (.cells z t fr) → ∃ z' : Array Value, (w.setCells b o vs).heap[b]? = some (.cells z' t fr) ∧ z'.size = z.size
  | [], _, _, z, h => ⟨z, h, rfl⟩
  | v :: r, o, w, z, h => by
    rw [World.setCells]
    obtain ⟨z', h1, h2⟩ := heap_setCells_blk b t fr r (o + 1) _ _ (heap_setCell_arr w b o z t fr v h)
    exact ⟨z', h1, by rw [h2]; simp⟩
theorem below_setCells {n : Nat} {a : World} (b : Nat) (hb : n ≤ b) : ∀ (vs : List Value) (o : Nat) (w : World), Below n a w → Below n a (w.setCells b o vs)
  | [], _, _, h => h
  | v :: r, o, w, h => by
    rw [World.setCells]
    exact below_setCells b hb r (o + 1) _ (h.setCell (p := ⟨b, o, none⟩) hb v)

theorem resI_len (p : List (List Nat)) (ok : Bool) (at_ row : Int) (ns : List Int) (len : Int) : (resI p ok at_ row ns len).length = p.length := by
  unfold resI; split <;> simp
theorem aft_len (p : List (List Nat)) (a : Int × Int) : (aft p a).length = p.length := by
  unfold aft; split
  · rfl
  · exact resI_len _ _ _ _ _ _
theorem aftL_len (p : List (List Nat)) (l : List (Int × Int)) : (aftL p l).length = p.length := by
  unfold aftL
  induction l generalizing p with
  | nil => rfl
  | cons a l ih => rw [List.foldl_cons, ih, aft_len]
theorem aftL_snoc (p : List (List Nat)) (l : List (Int × Int)) (a : Int × Int) : aftL p (l ++ [a]) = aft (aftL p l) a := by unfold aftL; rw [List.foldl_append]; rfl
theorem aft_res (p : List (List Nat)) (a : Int × Int) : aft p a = resI p (first p a.1).isSome (stA (first p a.1) : Nat) (stR (first p a.1) : Nat) ((stN (first p a.1)).map Int.ofNat) a.2 := by
  unfold aft
  cases h : first p a.1 with
  | none => exact (resI_no (.inl rfl)).symm
  | some s => rfl
theorem iw_iv (l : List Nat) : (l.map Int.ofNat).map iw = l.map iv := by rw [List.map_map]; rfl

theorem info_ask : (Try.prog.info? 34).map (·.size) = some 2 := by kernel_rfl
theorem infoStart : (Try.prog.info? 32).map (fun i => (i.zero, i.size, i.bytes)) = some (some (.agg #[.int .i64 0, .int .i64 0, .slice none 0 0, .bool false]), 4, 48) := by kernel_rfl

section
variable {w : World} {ops : Array Oper} {rest : List Oper} {o : Oper} {a : Act} {Q : Exit → Act → World → Prop}
theorem st_fresh (hgd : o.guard = none) (T : TypeId) (x y : Operand) (ho : o.op = .store T x y) (n : Nat) (hi : (Try.prog.info? T).map (·.size) = some n)
    (W : World) (z cs : Array Value) (hx : a.eval x = .pointer (some ⟨W.heap.size, 0, none⟩)) (hy : a.eval y = .agg cs) (hz : z.size = n) (hs : cs.size = n) (h1 : cs.all (·.oneCell') = true)
    (h : ∀ w' : World, w'.heap[W.heap.size]? = some (.cells cs T (0, 0)) → Below W.heap.size W w' → w'.heap.size = W.heap.size + 1 → wpList Try.prog ops Q rest (a.put o.dst undef) w') :
    wpList Try.prog ops Q (o :: rest) a (W.alloc (.cells z T)) := by
  have e := heap_alloc_new W (.cells z T)
  refine wpList_store_row hgd _ x y ho W.heap.size cs hx hy _ _ e (by rw [hi, hs]) (by rw [hz, hs]) h1 ?_
  refine h _ (setRow_heap (W.alloc _) W.heap.size _ _ _ _ e) ?_ (by simp)
  exact ((Below.refl _ _).alloc (Nat.le_refl _) _).trans ⟨rfl, rfl, rfl, by simp, fun k hk => setRow_other _ _ _ _ (by omega)⟩
end

theorem mkstarts (w : World) (n : Nat) (hn : n ≤ 1000) : ∃ Z : Array Value, Z.size = n * 4 ∧ (Instr.makeSlice 45 (.int .i64 n) (.int .i64 n)).run Try.prog w = .ok (.slice (some ⟨w.heap.size, 0, none⟩) n n) (w.alloc (.cells Z 32)) := by
  obtain ⟨i, hi, hz0, hz1, hz2⟩ := info_parts infoStart
  have := run_makeSlice (P := Try.prog) (w := w) 45 32 i _ Try.underlying45 hi hz0 .i64 .i64 n n (by omega) (Int.le_refl _) (by rw [hz1]; simp; omega) (by rw [hz2]; omega) (by omega)
  rw [this, hz1]
  refine ⟨_, ?_, rfl⟩
  simp [madeCells, Value.cells]

theorem StAt.keeps {w w' : World} {S : Nat → Prop} {base b off : Nat} {s : Found} (h : StAt w base b off s) (hk : Keeps S w w') (hb : b < w.heap.size) (h1 : ¬ S b) (h2 : ∀ q, base ≤ q → ¬ S q) : StAt w' base b off s :=
  h.to (hk.block b hb h1) fun q hq hlt _ => hk.block q hlt (h2 q hq)

/-- Behind k asks. -/
structure PlanIn (w : World) (lo bc : Nat) (g : Nat → Nat) (B sb n : Nat) (pb : List (List Nat)) (L : List (Int × Int)) (k : Nat) : Prop where
  pf : PfAt w lo bc g (aftL pb (L.take k))
  blk : ∃ z : Array Value, w.heap[sb]? = some (.cells z 32 (0, 0)) ∧ z.size = n * 4
  st : ∀ j, j < k → StAt w B sb (j * 4) (planAt pb L j)
theorem PlanIn.below {w w' : World} {lo bc : Nat} {g : Nat → Nat} {B sb n : Nat} {pb : List (List Nat)} {L : List (Int × Int)} {k : Nat} (h : PlanIn w lo bc g B sb n pb L k) (hb : Below w.heap.size w w') : PlanIn w' lo bc g B sb n pb L k := by
  obtain ⟨z, hz, hs⟩ := h.blk
  have hlt := (Array.getElem?_eq_some_iff.1 hz).1
  exact ⟨h.pf.below hb (Nat.le_refl _), ⟨z, (hb.block _ hlt).trans hz, hs⟩, fun j hj => (h.st j hj).below hlt hb⟩
theorem sel_le (l : List Nat) (k t : Nat) : (sel l k t).length ≤ l.length := by
  unfold sel selTo
  exact Nat.le_trans (List.length_filter_le _ _) (by simp)
theorem stN_le {p : List (List Nat)} {k : Int} {n : Nat} (h : ∀ l ∈ p, l.length ≤ n) : (stN (first p k)).length ≤ n := by
  rw [first_best]
  cases hb : bestK p k p.length with
  | none => exact Nat.zero_le _
  | some s =>
    show (sel (p.getD s.2 []) k.toNat s.1).length ≤ n
    refine Nat.le_trans (sel_le _ _ _) ?_
    rw [List.getD_eq_getElem?_getD]
    cases hp : p[s.2]? with
    | none => exact Nat.zero_le _
    | some l => exact h l (List.mem_of_getElem? hp)
theorem aftL_take {pb : List (List Nat)} {L : List (Int × Int)} {k : Nat} {a : Int × Int} (h : L[k]? = some a) : aftL pb (L.take (k + 1)) = aft (aftL pb (L.take k)) a := by
  rw [List.take_add_one, h]; exact aftL_snoc _ _ _
theorem planAt_of {pb : List (List Nat)} {L : List (Int × Int)} {k : Nat} {a : Int × Int} (h : L[k]? = some a) : planAt pb L k = first (aftL pb (L.take k)) a.1 := by
  unfold planAt; rw [List.getD_eq_getElem?_getD, h]; rfl

set_option maxRecDepth 100000 in
set_option maxHeartbeats 8000000 in
theorem plan_any (w : World) (v va : Value) (P : List (List Int)) (L : List (Int × Int)) (h : RdP w v P) (hl : P.length ≤ 1000) (hrl : ∀ r ∈ P, r.length ≤ 1000) (ha : RdA w va L) (hL : L.length ≤ 1000) :
    Calls Try.prog 21 #[v, va] w fun e w' => ∃ u, e = .returned u ∧ StRow w' w.heap.size 32 u (planL (bndP P) L) ∧ Below w.heap.size w w' := by
  obtain ⟨aa, ac, rfl, hac1, hac2⟩ := ha.len
  have HH := hid h
  have HA := hid ha
  clear h ha
  go_enter Try.func21, Try.ntmps21
  go_wp2_with fail
  refine (taken_any w _ P HH.out hl hrl).mono ?_
  rintro e w1 ⟨bc, g, rfl, hp1, hb1⟩
  have hs1 := hb1.size
  obtain ⟨Z, hZs, hmk⟩ := mkstarts w1 L.length hL
  have HP1 := hid hp1
  have HB1 := hid hb1
  have HBC := hid hp1.bcl
  have HGL := hid hp1.gl
  have HZS := hid hZs
  clear hp1 hb1 hZs
  go_wp2_with fail
  obtain ⟨w2, hw2⟩ : ∃ w2, w2 = w1.alloc (.cells Z 32) := ⟨_, rfl⟩
  rw [← hw2]
  have hs2 : w2.heap.size = w1.heap.size + 1 := by rw [hw2]; simp
  have hb12 : Below w1.heap.size w1 w2 := by rw [hw2]; exact (Below.refl _ w1).alloc (Nat.le_refl _) _
  have hz2 : w2.heap[w1.heap.size]? = some (.cells Z 32 (0, 0)) := by rw [hw2]; exact heap_alloc_new w1 _
  have HI := hid (show PlanIn w2 w.heap.size bc g w2.heap.size w1.heap.size L.length (bndP P) L 0 from ⟨by rw [List.take_zero]; exact HP1.out.below hb12 (Nat.le_refl _), ⟨Z, hz2, HZS.out⟩, fun j hj => absurd hj (Nat.not_lt_zero _)⟩)
  have HB2 := hid (HB1.out.trans (hb12.mono hs1))
  have hpl : (bndP P).length = P.length := bndP_len P
  have hll : ∀ k, (aftL (bndP P) (L.take k)).length = P.length := fun k => by rw [aftL_len, bndP_len]
  have HLL := hid hll
  have HG2 := hid (show ∀ i, i < P.length → g i < w1.heap.size from fun i hi => HGL.out i (by rw [bndP_len]; exact hi))
  clear hw2 hb12 hz2 hmk hpl hll
  go_loopw [16] (fun i wr => ∃ k : Nat, k ≤ L.length ∧ i = .int .i64 k ∧ PlanIn wr w.heap.size bc g w2.heap.size w1.heap.size L.length (bndP P) L k ∧ Below w.heap.size w wr ∧ w2.heap.size ≤ wr.heap.size) (fun i _ => L.length - (intOf i).toNat)
  case atStart => exact ⟨0, Nat.zero_le _, rfl, HI.out, HB2.out, Nat.le_refl _⟩
  case round =>
    obtain ⟨k, hk, rfl, hI, hB, hsz⟩ := hrel
    have HIN := hid hI
    have HB := hid hB
    by_cases hlt : k < L.length
    · obtain ⟨⟨K, N⟩, hx⟩ : ∃ x, L[k]? = some x := ⟨_, List.getElem?_eq_getElem hlt⟩
      obtain ⟨b, off, rfl, hbl, hrg⟩ := (HA.out.all hB).at k _ hx
      have hki : (k : Int) < (L.length : Int) := by omega
      have HX := hid hx
      have HRG := hid hrg
      clear hI hB hrg hx
      go_wp2_with (first
        | (refine wpList_load_mid rfl 34 (.tmp 19) rfl b (off + k * 2) rfl _ _ HRG.out Try.underlying34 rfl info_ask ?_)
        | (refine st_fresh rfl 34 (.tmp 8) (.tmp 20) rfl 2 info_ask wr _ #[.int .i64 K, .int .i64 N] rfl rfl rfl rfl (by simp [Value.oneCell']) ?_; intro w3 g3 b3 s3; have HG3 := hid g3; have HB3 := hid b3; have k3 : w3.cell? ⟨wr.heap.size, 0, none⟩ = some (.int .i64 K) := (cell_of_row _ _ _ _ _ _ g3).trans rfl; clear g3 b3)
        | fail)
      have HI3 := hid (HIN.out.below HB3.out)
      have HF := hid (first_any w3 w.heap.size bc g (aftL (bndP P) (L.take k)) K HI3.out.pf)
      rw [HLL.out k] at HF
      refine HF.out.mono ?_
      rintro e w4 ⟨u, rfl, ho, hb4⟩
      have hI4 := HI3.out.below hb4
      have HI4 := hid hI4
      obtain ⟨z, hz, hzs⟩ := hI4.blk
      have hth : w4.there w1.heap.size (k * 4) 4 := fun j hj => by
        refine ⟨?_, frozen_of_row _ _ _ _ _ hz⟩
        rw [cell_of_row _ _ _ _ _ _ hz, Array.getElem?_eq_getElem (by omega)]
        rfl
      obtain ⟨F, hF⟩ : ∃ F, F = first (aftL (bndP P) (L.take k)) K := ⟨_, rfl⟩
      rw [← hF] at ho ⊢
      have HFF := hid hF
      obtain ⟨ua, uc, rfl, hu1, hu2⟩ := owns_slice ho
      have HO := hid ho
      have HTH := hid hth
      have HB4 := hid hb4
      have HZ := hid hz
      have HZ2 := hid hzs
      have k4 : w4.cell? ⟨wr.heap.size, 1, none⟩ = some (.int .i64 N) := (hb4.cell (p := ⟨wr.heap.size, 1, none⟩) (by show wr.heap.size < _; omega)).trans ((cell_of_row _ _ _ _ _ _ HG3.out).trans rfl)
      have hs4 := hb4.size
      clear hF ho hth hb4 hz hzs hI4 k3
      generalize hfn : (stN F).length = fn at *
      go_wp2_with (first
        | (refine wpList_store_mid rfl 32 (.tmp 27) (.tmp 26) rfl w1.heap.size (k * 4) #[.int .i64 (stA F : Nat), .int .i64 (stR F : Nat), .slice ua fn uc, .bool F.isSome] rfl rfl HTH.out info_start (by simp [Value.oneCell']) ?_)
        | fail)
      simp only [Act.put]
      obtain ⟨w5, hw5⟩ : ∃ w5, w5 = w4.setCells w1.heap.size (k * 4) (#[.int .i64 (stA F : Nat), .int .i64 (stR F : Nat), .slice ua fn uc, .bool F.isSome] : Array Value).toList := ⟨_, rfl⟩
      rw [← hw5]
      have hr5 : w5.rangeAt w1.heap.size (k * 4) [.int .i64 (stA F : Nat), .int .i64 (stR F : Nat), .slice ua fn uc, .bool F.isSome] := by rw [hw5]; exact World.rangeAt_setCells_same _ _ _ _ HTH.out
      have hne5 : ∀ q, q ≠ w1.heap.size → w5.heap[q]? = w4.heap[q]? := fun q hq => by rw [hw5]; exact heap_setCells_ne _ _ hq _ _ _
      have hsz5 : w5.heap.size = w4.heap.size := by
        rw [hw5]; simp [World.setCells, World.setCell]
      have hblk5 : ∃ z : Array Value, w5.heap[w1.heap.size]? = some (.cells z 32 (0, 0)) ∧ z.size = L.length * 4 := by
        rw [hw5]
        obtain ⟨z', h1, h2⟩ := heap_setCells_blk w1.heap.size 32 (0, 0) (#[.int .i64 (stA F : Nat), .int .i64 (stR F : Nat), .slice ua fn uc, .bool F.isSome] : Array Value).toList (k * 4) w4 z HZ.out
        exact ⟨z', h1, by rw [h2]; exact HZ2.out⟩
      have hown5 : w5.ownsRow w2.heap.size 3 1 (.slice ua fn uc) fn ((stN F).map iv) := owns_base (owns_by HO.out fun q hq => hne5 q (by have := (World.ownsRow.lt HO.out q hq).1; omega)) (by omega)
      have hst5 : ∀ j, j < k + 1 → StAt w5 w2.heap.size w1.heap.size (j * 4) (planAt (bndP P) L j) := by
        intro j hj
        by_cases e : j = k
        · subst e
          rw [planAt_of HX.out, ← HFF.out]
          exact ⟨_, hr5, by rw [hfn]; exact hown5⟩
        · obtain ⟨u, h1, h2⟩ := HI4.out.st j (by omega)
          refine ⟨u, ?_, owns_by h2 fun q hq => hne5 q (by have := (World.ownsRow.lt h2 q hq).1; omega)⟩
          rw [hw5]
          exact World.rangeAt_setCells_apart h1 _ _ _ (.inr (.inl (by show j * 4 + 4 ≤ k * 4; omega)))
      have HST5 := hid hst5
      have HBLK5 := hid hblk5
      have hpf5 : PfAt w5.drew w.heap.size bc g (aftL (bndP P) (L.take k)) := HI4.out.pf.to (hne5 _ (by have := HBC.out; omega)) fun i hi => hne5 _ (by have := HG2.out i (by rw [HLL.out] at hi; exact hi); omega)
      have hrd5 : RdW w5.drew (.slice ua fn uc) (((stN F).map Int.ofNat).map iw) := by rw [iw_iv]; exact (RdV.of_own hown5).weak
      have hnl5 : ((stN F).map Int.ofNat).length ≤ 1000 := by
        rw [List.length_map, HFF.out]
        exact stN_le HI4.out.pf.rlen
      have hrr := reserve_any w5.drew w.heap.size bc g (aftL (bndP P) (L.take k)) (stA F : Nat) (stR F : Nat) N ((stN F).map Int.ofNat) F.isSome (.slice ua fn uc) hpf5 hrd5 hnl5 (by
        intro _ b' o n c e i hi
        simp only [Value.slice.injEq] at e
        have h1 := HG2.out i (by rw [HLL.out] at hi; exact hi)
        have h2 := (World.ownsRow.lt hown5 b' (by rw [e.1]; simp [Value.ownBlock])).1
        omega)
      rw [HLL.out k] at hrr
      have HRR := hid hrr
      have HB5 := hid (show Below w.heap.size w w5 by
        rw [hw5]
        exact below_setCells _ hs1 _ _ _ ((HB.out.trans (HB3.out.mono (by omega))).trans (HB4.out.mono (by omega))))
      clear hblk5 hown5 hst5 hpf5 hrd5 hnl5 hrr
      have HR5 := hid hr5
      have HN5 := hid hne5
      have q0 : w5.drew.cell? ⟨w1.heap.size, k * 4, none⟩ = some (.int .i64 (stA F : Nat)) := hr5 0 _ rfl
      have q1 : w5.drew.cell? ⟨w1.heap.size, k * 4 + 1, none⟩ = some (.int .i64 (stR F : Nat)) := hr5 1 _ rfl
      have q2 : w5.drew.cell? ⟨w1.heap.size, k * 4 + 2, none⟩ = some (.slice ua fn uc) := hr5 2 _ rfl
      have q3 : w5.drew.cell? ⟨w1.heap.size, k * 4 + 3, none⟩ = some (.bool F.isSome) := hr5 3 _ rfl
      have k5 : w5.drew.cell? ⟨wr.heap.size, 1, none⟩ = some (.int .i64 N) := by
        have e : w5.cell? ⟨wr.heap.size, 1, none⟩ = w4.cell? ⟨wr.heap.size, 1, none⟩ := World.cell?_of_block (w := w4) (hne5 _ (by show wr.heap.size ≠ _; omega))
        exact e.trans k4
      clear hw5 hr5 hne5 k4
      go_region_held3 (fun w' => w'.cell? ⟨w1.heap.size, k * 4, none⟩ = some (.int .i64 (stA F : Nat)) ∧ w'.cell? ⟨w1.heap.size, k * 4 + 1, none⟩ = some (.int .i64 (stR F : Nat)) ∧ w'.cell? ⟨w1.heap.size, k * 4 + 2, none⟩ = some (.slice ua fn uc) ∧ w'.cell? ⟨w1.heap.size, k * 4 + 3, none⟩ = some (.bool F.isSome) ∧ w'.cell? ⟨wr.heap.size, 1, none⟩ = some (.int .i64 N))
        (first | (refine ⟨?_, ?_, ?_, ?_, ?_⟩ <;> assumption) | fail)
        (first | (go_at_call 30; refine HRR.out.mono ?_; rintro e w6 ⟨rfl, hp6, hk6⟩; have hno : ¬ ∃ i, i < P.length ∧ w1.heap.size = g i := (by rintro ⟨i, hi, e⟩; have := HG2.out i hi; omega); have hno2 : ¬ ∃ i, i < P.length ∧ wr.heap.size = g i := (by rintro ⟨i, hi, e⟩; have := HG2.out i hi; omega); have z0 := (hk6.cell (p := ⟨w1.heap.size, k * 4, none⟩) (by show w1.heap.size < w5.heap.size; omega) hno).trans q0; have z1 := (hk6.cell (p := ⟨w1.heap.size, k * 4 + 1, none⟩) (by show w1.heap.size < w5.heap.size; omega) hno).trans q1; have z2 := (hk6.cell (p := ⟨w1.heap.size, k * 4 + 2, none⟩) (by show w1.heap.size < w5.heap.size; omega) hno).trans q2; have z3 := (hk6.cell (p := ⟨w1.heap.size, k * 4 + 3, none⟩) (by show w1.heap.size < w5.heap.size; omega) hno).trans q3; have z5 := (hk6.cell (p := ⟨wr.heap.size, 1, none⟩) (by show wr.heap.size < w5.heap.size; omega) hno2).trans k5; have HP6 := hid hp6; have HK6 := hid hk6; have HNO := hid hno; clear hp6 hk6 hno hno2) | fail)
      have hs6 : w5.heap.size ≤ w6.heap.size := HK6.out.size
      have HI6 := hid (show PlanIn w6 w.heap.size bc g w2.heap.size w1.heap.size L.length (bndP P) L (k + 1) by
        obtain ⟨z', hz1, hz2⟩ := HBLK5.out
        refine ⟨by rw [aftL_take HX.out, aft_res, ← HFF.out]; exact HP6.out, ⟨z', (HK6.out.block w1.heap.size (by show w1.heap.size < w5.heap.size; omega) HNO.out).trans hz1, hz2⟩, fun j hj => ?_⟩
        refine (show StAt w5.drew w2.heap.size w1.heap.size (j * 4) (planAt (bndP P) L j) from HST5.out j hj).keeps HK6.out (by show w1.heap.size < w5.heap.size; omega) HNO.out ?_
        rintro q hq ⟨i, hi, e⟩
        have := HG2.out i hi
        omega)
      have HB6 := hid (show Below w.heap.size w w6 from HB5.out.drew.trans (HK6.out.below (show w.heap.size ≤ w5.heap.size from HB5.out.size) fun q hq => by
        obtain ⟨i, hi, rfl⟩ := hq
        exact HI6.out.pf.log i (by rw [HLL.out]; exact hi)))
      go_wp2
      go_roundw
      case rel => exact ⟨k + 1, hlt, by go_num, HI6.out, HB6.out, by omega⟩
      case measure => simp [intOf]; omega
    · have e : k = L.length := by omega
      have hki : ¬ (k : Int) < (L.length : Int) := by omega
      have HQ := hid (show StRow wr w.heap.size 32 (.slice (some ⟨w1.heap.size, 0, none⟩) L.length L.length) (planL (bndP P) L) by
        obtain ⟨z, hz, -⟩ := hI.blk
        have hpl : (planL (bndP P) L).length = L.length := by simp [planL]
        refine .inr ⟨w1.heap.size, L.length, by rw [hpl], by rw [hpl]; exact Nat.le_refl _, by omega, hs1, ⟨z, hz⟩, fun j s hj => ?_⟩
        unfold planL at hj
        rw [List.getElem?_map] at hj
        have hjl : j < L.length := by
          rcases Nat.lt_or_ge j L.length with h | h
          · exact h
          · rw [List.getElem?_eq_none (by simpa using h)] at hj; cases hj
        rw [List.getElem?_range hjl] at hj
        cases hj
        exact (hI.st j (by omega)).base (by omega))
      clear hI hB e hlt
      go_wp2
      go_ret
      exact ⟨_, rfl, HQ.out, HB.out⟩

end Go.Proofs.Ytecojmpiaaehlaa
