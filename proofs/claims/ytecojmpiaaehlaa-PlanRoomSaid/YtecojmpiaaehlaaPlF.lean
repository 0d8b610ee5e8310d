/-
  Contracts of plan: a profile's first, reserve.
-/
import Derived.Test.YtecojmpiaaehlaaPlQ
namespace Go.Proofs.Ytecojmpiaaehlaa
open Go.RowKit Go.Shelf
set_option linter.unusedVariables false

abbrev Found := Option (Nat × Nat × List Nat)
def stA (s : Found) : Nat := (s.map fun x => x.1).getD 0
def stR (s : Found) : Nat := (s.map fun x => x.2.1).getD 0
def stN (s : Found) : List Nat := (s.map fun x => x.2.2).getD []

theorem load_st {ops : Array Oper} {rest : List Oper} {o : Oper} {a : Act} {w : World} {Q : Exit → Act → World → Prop} (hgd : o.guard = none) (ty : TypeId) (x : Operand) (ho : o.op = .load ty x)
    (g : Nat) (hx : a.eval x = .pointer (some ⟨g, 0, none⟩)) (cs : Array Value) (fs : Array Field) (n : Nat) (hg : w.heap[g]? = some (.cells cs ty (0, 0)))
    (hu : Try.prog.underlying ty = some (.struct fs)) (hi : (Try.prog.info? ty).map (·.size) = some n) (hn : cs.size = n)
    (h : wpList Try.prog ops Q rest (a.put o.dst (.agg cs)) w) : wpList Try.prog ops Q (o :: rest) a w :=
  wpList_load_row hgd ty x ho g hx ty cs (0, 0) (.struct fs) hg hu rfl (by rw [hi, hn]) h

theorem store_st {ops : Array Oper} {rest : List Oper} {o : Oper} {a : Act} {w : World} {Q : Exit → Act → World → Prop} (hgd : o.guard = none) (ty : TypeId) (x y : Operand) (ho : o.op = .store ty x y)
    (g : Nat) (cells : Array Value) (hx : a.eval x = .pointer (some ⟨g, 0, none⟩)) (hy : a.eval y = .agg cells) (old : Array Value) (n : Nat) (hg : w.heap[g]? = some (.cells old ty (0, 0))) (hi : (Try.prog.info? ty).map (·.size) = some n)
    (hn : cells.size = n) (hold : old.size = n) (h1 : cells.all (·.oneCell') = true)
    (h : wpList Try.prog ops Q rest (a.put o.dst undef) (w.setRow g cells)) : wpList Try.prog ops Q (o :: rest) a w :=
  wpList_store_row hgd ty x y ho g cells hx hy ty old hg (by rw [hi, hn]) (by rw [hold, hn]) h1 h

def bestK (p : List (List Nat)) (k : Int) (n : Nat) : Option (Nat × Nat) := if k < 1 then none else bestTo p k.toNat n
theorem bestK_succ {p : List (List Nat)} {k : Int} {n : Nat} {l : List Nat} (hl : p[n]? = some l) : bestK p k (n + 1) = match rowK l k with
    | none => bestK p k n
    | some t => better (bestK p k n) t n := by
  unfold bestK rowK
  by_cases h : k < 1
  · simp [h]
  · rw [if_neg h, if_neg h, if_neg h, bestTo_succ, List.getD_eq_getElem?_getD, hl]
    rfl
theorem first_best (p : List (List Nat)) (k : Int) : first p k = (bestK p k p.length).map fun s => (s.1, s.2, sel (p.getD s.2 []) k.toNat s.1) := by
  unfold first bestK
  by_cases h : k < 1
  · rw [if_pos h, if_pos h]; rfl
  · rw [if_neg h, if_neg h]

theorem below_setRow {B : Nat} {a w : World} (h : Below B a w) (g : Nat) (cs : Array Value) (hg : B ≤ g) : Below B a (w.setRow g cs) :=
  h.trans ⟨rfl, rfl, rfl, by simp, fun k hk => setRow_other _ _ _ _ (by omega)⟩
theorem info_start : (Try.prog.info? 32).map (·.size) = some 4 := by kernel_rfl
/-- What was found, ahead of its nodes. -/
def stc (s : Option (Nat × Nat)) : Array Value := #[.int .i64 ((s.map Prod.fst).getD 0 : Nat), .int .i64 ((s.map Prod.snd).getD 0 : Nat), .slice none 0 0, .bool s.isSome]

set_option maxRecDepth 100000 in
set_option maxHeartbeats 8000000 in
theorem first_any (w : World) (lo bc : Nat) (g : Nat → Nat) (p : List (List Nat)) (k : Int) (h : PfAt w lo bc g p) :
    Calls Try.prog 26 #[.slice (some ⟨bc, 0, none⟩) p.length p.length, .int .i64 k] w fun e w' => ∃ u, e = .returned (.agg #[.int .i64 (stA (first p k) : Nat), .int .i64 (stR (first p k) : Nat), u, .bool (first p k).isSome]) ∧ w'.ownsRow w.heap.size 3 1 u (stN (first p k)).length ((stN (first p k)).map iv) ∧ Below w.heap.size w w' := by
  have hpl := h.len
  have HP := hid h
  have hbc := h.bcl
  clear h
  go_enter Try.func26, Try.ntmps26
  go_wp2_with fail
  obtain ⟨w1, hw1⟩ : ∃ w1, w1 = w.alloc (.cells #[.int .i64 0, .int .i64 0, .slice none 0 0, .bool false] 32) := ⟨_, rfl⟩
  rw [← hw1]
  obtain ⟨w2, hw2⟩ : ∃ w2, w2 = w1.alloc (.cells #[.int .i64 0, .int .i64 0, .slice none 0 0, .bool false] 32) := ⟨_, rfl⟩
  rw [← hw2]
  have hs1 : w1.heap.size = w.heap.size + 1 := by rw [hw1]; simp
  have hs2 : w2.heap.size = w.heap.size + 2 := by rw [hw2]; simp [hs1]
  have hb1 : Below w.heap.size w w1 := by rw [hw1]; exact (Below.refl _ w).alloc (Nat.le_refl _) _
  have hb2 : Below w1.heap.size w1 w2 := by rw [hw2]; exact (Below.refl _ w1).alloc (Nat.le_refl _) _
  have HB2 := hid (hb1.trans (hb2.mono (by omega)))
  have HR2 := hid (show w2.heap[w.heap.size]? = some (.cells #[.int .i64 0, .int .i64 0, .slice none 0 0, .bool false] 32 (0, 0)) from (hb2.block _ (by omega)).trans (by rw [hw1]; exact heap_alloc_new w _))
  have HS2 := hid (show w2.heap[w.heap.size + 1]? = some (.cells (stc none) 32 (0, 0)) by rw [hw2, ← hs1]; exact heap_alloc_new w1 _)
  have H1S := hid hs1
  clear hw1 hw2 hb1 hb2
  go_loopw [12] (fun i wr => ∃ q : Nat, q ≤ p.length ∧ i = .int .i64 q ∧ wr.heap[w.heap.size + 1]? = some (.cells (stc (bestK p k q)) 32 (0, 0)) ∧ wr.heap[w.heap.size]? = some (.cells #[.int .i64 0, .int .i64 0, .slice none 0 0, .bool false] 32 (0, 0)) ∧ Below w.heap.size w wr) (fun i _ => p.length - (intOf i).toNat)
  case atStart => exact ⟨0, Nat.zero_le _, rfl, by rw [show bestK p k 0 = none by unfold bestK; split <;> rfl]; exact HS2.out, HR2.out, HB2.out⟩
  case round =>
    obtain ⟨q, hq, rfl, hS, hR, hB⟩ := hrel
    have HS := hid hS
    have HR := hid hR
    have HB := hid hB
    have hszr : w.heap.size + 1 < wr.heap.size := (Array.getElem?_eq_some_iff.1 hS).1
    have hPr := HP.out.below hB (Nat.le_refl _)
    clear hS hR hB
    by_cases hlt : q < p.length
    · obtain ⟨l, hl⟩ : ∃ l, p[q]? = some l := ⟨_, List.getElem?_eq_getElem hlt⟩
      have hrow := hPr.row q l hl
      have HRD := hid (hPr.rd q l hl)
      have hll := hPr.rlen l (List.mem_of_getElem? hl)
      have HBS := hid (bestK_succ (k := k) hl)
      have hqi : (q : Int) < (p.length : Int) := by omega
      clear hPr hl
      go_wp2_with fail
      refine (soonest_any wr _ l k HRD.out hll).mono ?_
      rintro e w3 ⟨rfl, hb3⟩
      have HB3 := hid (HB.out.trans (hb3.mono (by omega)))
      have hS3 := (hb3.block _ hszr).trans HS.out
      have HS3 := hid hS3
      have HR3 := hid ((hb3.block _ (by omega)).trans HR.out)
      have e0 : w3.cell? ⟨w.heap.size + 1, 0, none⟩ = some (.int .i64 (((bestK p k q).map Prod.fst).getD 0 : Nat)) := (cell_of_row _ _ _ _ _ _ hS3).trans rfl
      have e3 : w3.cell? ⟨w.heap.size + 1, 3, none⟩ = some (.bool (bestK p k q).isSome) := (cell_of_row _ _ _ _ _ _ hS3).trans rfl
      clear hb3 hS3
      cases hrk : rowK l k with
      | none =>
        have HE := hid (show bestK p k (q + 1) = bestK p k q by rw [HBS.out, hrk])
        clear hrk
        simp only [Option.getD_none, Option.isSome_none]
        generalize (bestK p k q).isSome = ss at e3
        generalize ((bestK p k q).map Prod.fst).getD 0 = sa at e0
        go_wp2_with fail
        go_roundw
        case rel => exact ⟨q + 1, hlt, by go_num, by rw [HE.out]; exact HS3.out, HR3.out, HB3.out⟩
        case measure => simp [intOf]; omega
      | some t =>
        cases hbk : bestK p k q with
        | none =>
          have HE := hid (show bestK p k (q + 1) = some (t, q) by rw [HBS.out, hrk, hbk]; rfl)
          rw [hbk] at e0 e3 HS3
          simp only [Option.map_none, Option.getD_none, Option.isSome_none] at e0 e3
          simp only [Option.getD_some, Option.isSome_some]
          clear hrk hbk
          go_wp2_with (first | (refine store_st rfl 32 (.tmp 5) (.tmp 37) rfl (w.heap.size + 1) #[.int .i64 (t : Nat), .int .i64 (q : Nat), .slice none 0 0, .bool true] rfl rfl _ 4 HS3.out info_start rfl rfl (by simp [Value.oneCell']) ?_) | fail)
          go_roundw
          case rel => exact ⟨q + 1, hlt, by go_num, by rw [HE.out]; exact setRow_heap w3 (w.heap.size + 1) _ _ _ _ HS3.out, (setRow_other _ _ _ _ (by omega)).trans HR3.out, below_setRow HB3.out _ _ (by omega)⟩
          case measure => simp [intOf]; omega
        | some bb =>
          obtain ⟨b, r⟩ := bb
          rw [hbk] at e0 e3 HS3
          simp only [Option.map_some, Option.getD_some, Option.isSome_some] at e0 e3
          simp only [Option.getD_some, Option.isSome_some]
          by_cases htb : t < b
          · have HE := hid (show bestK p k (q + 1) = some (t, q) by rw [HBS.out, hrk, hbk]; unfold better; simp [htb])
            have d1 : decide ((t : Int) < (b : Int)) = true := by simpa using htb
            have d2 : decide (t < b) = true := by simpa using htb
            clear hrk hbk htb
            go_wp2_with (first | (refine store_st rfl 32 (.tmp 5) (.tmp 37) rfl (w.heap.size + 1) #[.int .i64 (t : Nat), .int .i64 (q : Nat), .slice none 0 0, .bool true] rfl rfl _ 4 HS3.out info_start rfl rfl (by simp [Value.oneCell']) ?_) | fail)
            go_roundw
            case rel => exact ⟨q + 1, hlt, by go_num, by rw [HE.out]; exact setRow_heap w3 (w.heap.size + 1) _ _ _ _ HS3.out, (setRow_other _ _ _ _ (by omega)).trans HR3.out, below_setRow HB3.out _ _ (by omega)⟩
            case measure => simp [intOf]; omega
          · have HE := hid (show bestK p k (q + 1) = some (b, r) by rw [HBS.out, hrk, hbk]; unfold better; simp [htb])
            have d1 : decide ((t : Int) < (b : Int)) = false := by simpa using htb
            have d2 : decide (t < b) = false := by simpa using htb
            have d3 : decide (b ≤ t) = true := by simpa using htb
            clear hrk hbk htb
            go_wp2_with fail
            go_roundw
            case rel => exact ⟨q + 1, hlt, by go_num, by rw [HE.out]; exact HS3.out, HR3.out, HB3.out⟩
            case measure => simp [intOf]; omega
    · have e : q = p.length := by omega
      have hqi : ¬ (q : Int) < (p.length : Int) := by omega
      rw [e] at HS
      have e3 : wr.cell? ⟨w.heap.size + 1, 3, none⟩ = some (.bool (bestK p k p.length).isSome) := (cell_of_row _ _ _ _ _ _ HS.out).trans rfl
      cases hb : bestK p k p.length with
      | none =>
        have HF := hid (show first p k = none by rw [first_best, hb]; rfl)
        rw [hb] at HS e3
        simp only [Option.isSome_none] at e3
        clear hb e hlt
        go_wp2_with (first
          | (refine load_st rfl 32 (.tmp 5) rfl (w.heap.size + 1) rfl _ _ 4 HS.out Try.underlying32 info_start rfl ?_)
          | (refine store_st rfl 32 (.tmp 4) (.tmp 51) rfl w.heap.size (stc none) rfl rfl _ 4 HR.out info_start rfl rfl (by simp [stc, Value.oneCell']) ?_)
          | fail)
        refine bodyPost_ret (results_cell_row (P := Try.prog) rfl _ _ w.heap.size 32 (stc none) (0, 0) _ rfl (setRow_heap wr w.heap.size _ _ _ _ HR.out) Try.underlying32 rfl (by kernel_rfl)) rfl ?_
        rw [HF.out]
        exact ⟨_, rfl, World.ownsRow_nil _ _ _ _, below_setRow HB.out _ _ (Nat.le_refl _)⟩
      | some bb =>
        obtain ⟨t, i⟩ := bb
        have hk1 : ¬ k < 1 := fun h => by unfold bestK at hb; rw [if_pos h] at hb; cases hb
        have hbt : bestTo p k.toNat p.length = some (t, i) := by unfold bestK at hb; rw [if_neg hk1] at hb; exact hb
        obtain ⟨hi, hT, -, -⟩ := bestTo_some.1 hbt
        obtain ⟨l, hl⟩ : ∃ l, p[i]? = some l := ⟨_, List.getElem?_eq_getElem hi⟩
        have hgd : p.getD i [] = l := by rw [List.getD_eq_getElem?_getD, hl]; rfl
        rw [hgd] at hT
        obtain ⟨kn, rfl⟩ : ∃ kn : Nat, k = (kn : Int) := ⟨k.toNat, by omega⟩
        rw [Int.toNat_natCast] at hT hbt
        have hll := HP.out.rlen l (List.mem_of_getElem? hl)
        have hkn : kn ≤ 1000 := by
          have h1 := (rowT_some.1 hT).1.2
          have h2 := cnt_len l t
          omega
        have hkn1 : 1 ≤ kn := by omega
        have HF := hid (show first p (kn : Int) = some (t, i, sel l kn t) by
          rw [first_best, hb]
          show some (t, i, sel (p.getD i []) kn t) = _
          rw [hgd])
        rw [hb] at HS e3
        simp only [Option.isSome_some] at e3
        have hPr := HP.out.below HB.out (Nat.le_refl _)
        have r0 : wr.drew.cell? ⟨bc, i, none⟩ = some (.slice (some ⟨g i, 0, none⟩) l.length l.length) := hPr.row i l hl
        have e0 : wr.drew.cell? ⟨w.heap.size + 1, 0, none⟩ = some (.int .i64 (t : Nat)) := (cell_of_row wr _ _ _ _ _ HS.out).trans rfl
        have e1 : wr.drew.cell? ⟨w.heap.size + 1, 1, none⟩ = some (.int .i64 (i : Nat)) := (cell_of_row wr _ _ _ _ _ HS.out).trans rfl
        have HRD := hid (show RdV wr.drew (.slice (some ⟨g i, 0, none⟩) l.length l.length) (l.map iv) from hPr.rd i l hl)
        have HT := hid hT
        have hii : (i : Int) < (p.length : Int) := by omega
        have hbc2 : w.heap.size + 1 ≠ bc := by omega
        have hbc3 : bc < wr.heap.size := by omega
        have HKN := hid hkn
        clear hb hk1 hbt hT hl hgd e hlt hPr hkn
        go_wp2_with fail
        go_region_held3 (fun w' => w'.cell? ⟨w.heap.size + 1, 0, none⟩ = some (.int .i64 (t : Nat)) ∧ w'.cell? ⟨w.heap.size + 1, 1, none⟩ = some (.int .i64 (i : Nat)) ∧ w'.cell? ⟨bc, i, none⟩ = some (.slice (some ⟨g i, 0, none⟩) l.length l.length))
          (first | (refine ⟨?_, ?_, ?_⟩ <;> assumption) | exact ⟨(World.cell?_setCell_other w3 ⟨w.heap.size + 1, 2, none⟩ ⟨w.heap.size + 1, 0, none⟩ _ (by simp)).trans k0, (World.cell?_setCell_other w3 ⟨w.heap.size + 1, 2, none⟩ ⟨w.heap.size + 1, 1, none⟩ _ (by simp)).trans k1, (World.cell?_setCell_far w3 ⟨w.heap.size + 1, 2, none⟩ ⟨bc, i, none⟩ _ hbc2).trans k2⟩ | fail)
          (first | (go_at_call 34; refine (pick_any wr.drew _ l kn t HRD.out hll hkn1 HKN.out HT.out).mono ?_; rintro e w3 ⟨u, rfl, ho, hb3⟩; have k0 := (hb3.cell (p := ⟨w.heap.size + 1, 0, none⟩) hszr).trans e0; have k1 := (hb3.cell (p := ⟨w.heap.size + 1, 1, none⟩) hszr).trans e1; have k2 := (hb3.cell (p := ⟨bc, i, none⟩) hbc3).trans r0; have hs3 : w3.heap[w.heap.size + 1]? = some (.cells (stc (some (t, i))) 32 (0, 0)) := (hb3.block _ hszr).trans HS.out; have m2 : w3.cell? ⟨w.heap.size + 1, 2, none⟩ = some (.slice none 0 0) := (cell_of_row w3 _ _ _ _ _ hs3).trans rfl; have f2 : w3.frozen? ⟨w.heap.size + 1, 2, none⟩ = false := frozen_of_row _ _ _ _ _ hs3; obtain ⟨ua, uc, ex, hu1, hu2⟩ := owns_slice ho; subst ex; have HO := hid ho; have HB3 := hid hb3; have HS3 := hid hs3; clear ho hb3 hs3) | fail)
        have HS4 := hid (show (w3.setCell ⟨w.heap.size + 1, 2, none⟩ (.slice ua (sel l kn t).length uc)).heap[w.heap.size + 1]? = some (.cells #[.int .i64 (t : Nat), .int .i64 (i : Nat), .slice ua (sel l kn t).length uc, .bool true] 32 (0, 0)) from heap_setCell_arr _ _ _ _ _ _ _ HS3.out)
        have HR4 := hid (show (w3.setCell ⟨w.heap.size + 1, 2, none⟩ (.slice ua (sel l kn t).length uc)).heap[w.heap.size]? = some (.cells #[.int .i64 0, .int .i64 0, .slice none 0 0, .bool false] 32 (0, 0)) from (Below.heap_setCell _ _ _ _ (by simp)).trans ((HB3.out.block _ (show w.heap.size < wr.heap.size by omega)).trans HR.out))
        have HB4 := hid (show Below w.heap.size w (w3.setCell ⟨w.heap.size + 1, 2, none⟩ (.slice ua (sel l kn t).length uc)) from (HB.out.drew.trans (HB3.out.mono (show w.heap.size ≤ wr.heap.size by omega))).setCell (show w.heap.size ≤ w.heap.size + 1 by omega) _)
        have HO4 := hid (show (w3.setCell ⟨w.heap.size + 1, 2, none⟩ (.slice ua (sel l kn t).length uc)).ownsRow wr.heap.size 3 1 (.slice ua (sel l kn t).length uc) (sel l kn t).length ((sel l kn t).map iv) from owns_by HO.out fun b hb => Below.heap_setCell _ _ _ _ (by have := (World.ownsRow.lt HO.out b hb).1; have h2 : wr.drew.heap.size = wr.heap.size := rfl; show b ≠ w.heap.size + 1; omega))
        generalize hw4 : w3.setCell ⟨w.heap.size + 1, 2, none⟩ (.slice ua (sel l kn t).length uc) = w4 at *
        clear k0 k1 k2 m2 f2 hw4
        go_wp2_with (first
          | (refine load_st rfl 32 (.tmp 5) rfl (w.heap.size + 1) rfl _ _ 4 HS4.out Try.underlying32 info_start rfl ?_)
          | (refine store_st rfl 32 (.tmp 4) (.tmp 51) rfl w.heap.size _ rfl rfl _ 4 HR4.out info_start rfl rfl (by simp [Value.oneCell']) ?_)
          | fail)
        refine bodyPost_ret (results_cell_row (P := Try.prog) rfl _ _ w.heap.size 32 _ (0, 0) _ rfl (setRow_heap w4 w.heap.size _ _ _ _ HR4.out) Try.underlying32 rfl (by kernel_rfl)) rfl ?_
        rw [HF.out]
        refine ⟨_, rfl, ?_, below_setRow HB4.out _ _ (Nat.le_refl _)⟩
        exact owns_base (owns_by HO4.out fun b hb => setRow_other _ _ _ _ (by have := (World.ownsRow.lt HO4.out b hb).1; omega)) (by omega)

end Go.Proofs.Ytecojmpiaaehlaa
