/-
  Copy.
  What one client asks, plainly: the others' replies and jobs stay.
-/
import Derived.Test.YtahiaifdfgkemaaJbQ
import Derived.Laws.Tables
import Derived.Laws.Rows
import Derived.Test.YtahiaifdfgkemaaJbRR
namespace Go.Proofs.Ytahiaifdfgkemaa
open Go.RowKit
set_option linter.unusedVariables false
set_option linter.unusedSimpArgs false

theorem tcel_one (t : Tb) (va vo : Value) (ha : va.oneCell' = true) (ho : vo.oneCell' = true) : (tcel t va vo).toArray.all (·.oneCell') = true := by
  rw [List.all_toArray, List.all_eq_true]
  intro u hu
  unfold tcel at hu
  simp only [List.mem_cons] at hu
  rcases hu with rfl | rfl | rfl | rfl | hu
  · rfl
  · rfl
  · exact ha
  · exact ho
  · unfold rcels at hu
    rw [List.mem_flatMap] at hu
    obtain ⟨x, _, hx⟩ := hu
    unfold rcel at hx
    simp at hx
    rcases hx with rfl | rfl | rfl | rfl | rfl | rfl <;> rfl
theorem tcel_size (t : Tb) (va vo : Value) (h : t.rs.length = 8) : (tcel t va vo).toArray.size = 52 := by
  rw [List.size_toArray]
  unfold tcel
  simp only [List.length_cons, rcels_len, h]
theorem infoTab : (Try.prog.info? 58).map (·.size) = some 52 := by kernel_rfl
section
variable {w : World} {ops : Array Oper} {rest : List Oper} {o : Oper} {a : Act} {Q : Exit → Act → World → Prop}
theorem st_freshT (hgd : o.guard = none) (T : TypeId) (x y : Operand) (ho : o.op = .store T x y) (n : Nat) (hi : (Try.prog.info? T).map (·.size) = some n)
    (W : World) (z cs : Array Value) (hx : a.eval x = .pointer (some ⟨W.heap.size, 0, none⟩)) (hy : a.eval y = .agg cs) (hz : z.size = n) (hs : cs.size = n) (h1 : cs.all (·.oneCell') = true)
    (h : ∀ w' : World, w'.heap[W.heap.size]? = some (.cells cs T (0, 0)) → Below W.heap.size W w' → w'.heap.size = W.heap.size + 1 → wpList Try.prog ops Q rest (a.put o.dst undef) w') :
    wpList Try.prog ops Q (o :: rest) a (W.alloc (.cells z T)) := by
  have e := heap_alloc_new W (.cells z T)
  refine wpList_store_row hgd _ x y ho W.heap.size cs hx hy _ _ e (by rw [hi, hs]) (by rw [hz, hs]) h1 ?_
  refine h _ (setRow_heap (W.alloc _) W.heap.size _ _ _ _ e) ?_ (by simp)
  exact ((Below.refl _ _).alloc (Nat.le_refl _) _).trans ⟨rfl, rfl, rfl, by simp, fun k hk => setRow_other _ _ _ _ (by omega)⟩
end

set_option maxRecDepth 100000 in
set_option maxHeartbeats 4000000 in
theorem copy_any (w : World) (lo b : Nat) (va vo : Value) (t : Tb) (h : TbAt w lo b va vo t) :
    Calls Try.prog 16 #[.pointer (some ⟨b, 0, none⟩)] w fun e w' => ∃ va' vo', e = .returned (.pointer (some ⟨w.heap.size, 0, none⟩)) ∧ TbAt w' w.heap.size w.heap.size va' vo' t ∧ Below w.heap.size w w' := by
  obtain ⟨aa, ca, eva, hca1, hca2⟩ := owns_slice h.oa
  obtain ⟨ao, co, evo, hco1, hco2⟩ := owns_slice h.oo
  subst eva evo
  have HT := hid h
  have HB := hid h.blk
  have HS := hid (tcel_size t (.slice aa t.act.length ca) (.slice ao t.over.length co) h.r8)
  have HO := hid (tcel_one t (.slice aa t.act.length ca) (.slice ao t.over.length co) rfl rfl)
  have hlb := h.lt
  obtain ⟨cs, hcs⟩ : ∃ cs, cs = (tcel t (.slice aa t.act.length ca) (.slice ao t.over.length co)).toArray := ⟨_, rfl⟩
  rw [← hcs] at HB HS HO
  have HCS := hid hcs
  have HINF := hid (show (Try.prog.info? 58).map (·.size) = some cs.size by rw [HS.out]; exact infoTab)
  clear h hcs
  go_enter Try.func16, Try.ntmps16
  go_upto_region 4 with (first
    | (refine wpList_load_row rfl 58 (.tmp 7) rfl b rfl _ cs _ _ HB.out Try.underlying58 rfl HINF.out ?_)
    | (refine st_freshT rfl 58 (.tmp 3) (.tmp 8) rfl 52 infoTab w _ cs rfl rfl rfl HS.out HO.out ?_; intro w3 g3 b3 s3; have HG3 := hid g3; have HB3 := hid b3; have HS3 := hid s3; clear g3 b3 s3)
    | fail)
  obtain ⟨g, hg⟩ : ∃ g, g = w.heap.size := ⟨_, rfl⟩
  have HGG := hid hg
  simp only [← hg]
  rw [← hg] at HG3
  have hT3 := HT.out.below HB3.out
  have c2 := hT3.c2
  have HCL := hid (cloneJ_any w3 lo _ t.act hT3.oa hT3.la)
  have hgb : b < g := by omega
  have HGB := hid hgb
  clear hT3 hg
  go_wp2_with fail
  refine HCL.out.mono ?_
  rintro e w4 ⟨v1, rfl, ho4, hb4⟩
  have hg4 := (hb4.block g (by have := HS3.out; have := HGG.out; omega)).trans HG3.out
  have k2 : w4.cell? ⟨g, 2, none⟩ = some (.slice aa t.act.length ca) := (cell_of_row _ _ _ _ _ _ hg4).trans (by rw [HCS.out]; rfl)
  have f2 : w4.frozen? ⟨g, 2, none⟩ = false := frozen_of_row _ _ _ _ _ hg4
  have HG4 := hid hg4
  have HO4 := hid ho4
  have HB4 := hid (HB3.out.trans (hb4.mono HB3.out.size))
  have hsz4 := hb4.size
  obtain ⟨w5, hw5⟩ : ∃ w5, w5 = w4.setCell ⟨g, 2, none⟩ v1 := ⟨_, rfl⟩
  have hk5 : Keeps (fun k => k = g) w4 w5 := by rw [hw5]; exact kset1 w4 g 2 v1
  have hg5 : w5.heap[g]? = some (.cells (tcel t v1 (.slice ao t.over.length co)).toArray 58 (0, 0)) := by rw [hw5, heap_setCell_arrJ _ _ _ _ _ _ _ hg4, HCS.out]; simp [tcel]
  have HG5 := hid hg5
  have HB5 := hid (show Below w.heap.size w w5 from HB4.out.trans (hk5.below HB4.out.size (by rintro i rfl; have := HGG.out; omega)))
  have HO5 := hid (show OwnJ w5 w3.heap.size v1 t.act from owns_by ho4 fun k hk => hk5.block k (World.ownsRow.lt ho4 k hk).2 (by have := (World.ownsRow.lt ho4 k hk).1; have := HS3.out; have := HGG.out; omega))
  have hT5 := HT.out.below HB5.out
  have c3 := hT5.c3
  have HCL2 := hid (cloneJ_any w5 lo _ t.over hT5.oo hT5.lv)
  have HS5 := hid (show w4.heap.size ≤ w5.heap.size from hk5.size)
  have HL1 := hid (show ∀ q, v1.ownBlock = some q → q < w5.heap.size from fun q hq => (World.ownsRow.lt HO5.out q hq).2)
  have HP1 := hid (show ∀ q, v1.ownBlock = some q → w3.heap.size ≤ q from fun q hq => (World.ownsRow.lt HO5.out q hq).1)
  obtain ⟨a1, q1, rfl, -, -⟩ := owns_slice ho4
  clear ho4 hb4 hg4 hk5 hg5 hT5
  go_upto_region 5 with fail
  rw [← hw5]
  clear hw5 k2 f2 c2
  go_wp2_with fail
  refine HCL2.out.mono ?_
  rintro e w6 ⟨v2, rfl, ho6, hb6⟩
  obtain ⟨a2, q2, rfl, -, -⟩ := owns_slice ho6
  have hg6 := (hb6.block g (by have := HS5.out; have := HS3.out; have := HGG.out; omega)).trans HG5.out
  have k3 : w6.cell? ⟨g, 3, none⟩ = some (.slice ao t.over.length co) := (cell_of_row _ _ _ _ _ _ hg6).trans rfl
  have f3 : w6.frozen? ⟨g, 3, none⟩ = false := frozen_of_row _ _ _ _ _ hg6
  have HK7 := hid (kset1 w6 g 3 (.slice a2 t.over.length q2))
  have HB6 := hid (HB5.out.trans (hb6.mono HB5.out.size))
  have HFIN := hid (show TbAt (w6.setCell ⟨g, 3, none⟩ (.slice a2 t.over.length q2)) g g (.slice a1 t.act.length q1) (.slice a2 t.over.length q2) t from by
    refine ⟨by rw [heap_setCell_arrJ _ _ _ _ _ _ _ hg6]; simp [tcel], ?_, ?_, ?_, Nat.le_refl _, HT.out.la, HT.out.lv, HT.out.r8⟩
    · exact owns_base (owns_by (owns_below HO5.out hb6) fun k hk => HK7.out.block k (by have := HL1.out k hk; have := hb6.size; omega) (by have := HP1.out k hk; have := HS3.out; have := HGG.out; omega)) (by have := HS3.out; have := HGG.out; omega)
    · exact owns_base (owns_by ho6 fun k hk => HK7.out.block k (World.ownsRow.lt ho6 k hk).2 (by have := (World.ownsRow.lt ho6 k hk).1; have := HS5.out; have := HS3.out; have := HGG.out; omega)) (by have := HS5.out; have := HS3.out; have := HGG.out; omega)
    · intro k hk hk2
      have := HL1.out k hk
      have := (World.ownsRow.lt ho6 k hk2).1
      omega)
  have HBF := hid (show Below w.heap.size w (w6.setCell ⟨g, 3, none⟩ (.slice a2 t.over.length q2)) from HB6.out.trans (HK7.out.below HB6.out.size (by rintro i rfl; have := HGG.out; omega)))
  clear ho6 hb6 hg6
  go_wp2_with fail
  go_ret
  have hge := HGG.out
  subst hge
  exact ⟨_, _, rfl, HFIN.out, HBF.out⟩

end Go.Proofs.Ytahiaifdfgkemaa

namespace Go.Proofs.Ytahiaifdfgkemaa
open Go.RowKit
set_option linter.unusedVariables false
set_option linter.unusedSimpArgs false

theorem pos_mem {l : List Jb} (hp : l.Pairwise (fun x y => x.1 < y.1)) {x : Jb} (hx : x ∈ l) : ∃ i, pos l x.1 = some i ∧ l[i]? = some x := by
  obtain ⟨i, hi⟩ := List.getElem?_of_mem hx
  refine ⟨i, pos_of hi rfl fun j y hj hy => ?_, hi⟩
  obtain ⟨hil, hie⟩ := List.getElem?_eq_some_iff.1 hi
  obtain ⟨hjl, hje⟩ := List.getElem?_eq_some_iff.1 hy
  have := List.pairwise_iff_getElem.1 hp j i hjl hil hj
  rw [hie, hje] at this
  omega
theorem job_mem {t : Tb} (h : t.ok) {x : Jb} (hx : x ∈ t.act) : t.job x.1 = (x, true) := by
  obtain ⟨i, h1, h2⟩ := pos_mem h.rise hx
  unfold Tb.job
  rw [h1]
  show (t.act.getD i jzero, true) = _
  rw [List.getD_eq_getElem?_getD, h2]
  rfl
theorem cut64_last (l : List Jb) (y : Jb) : y ∈ cut64 (l ++ [y]) := by
  unfold cut64
  split
  · rename_i h
    have hl : (l ++ [y])[l.length]? = some y := by simp
    have hd : ∀ d, d ≤ l.length → y ∈ (l ++ [y]).drop d := fun d hd => by
      rw [List.drop_append_of_le_length hd]
      exact List.mem_append_right _ (List.mem_singleton.2 rfl)
    apply hd
    rw [List.length_append] at *
    simp at *
    omega
  · exact List.mem_append_right _ (List.mem_singleton.2 rfl)
theorem job_over {t : Tb} {z : Nat} {y : Jb} (hy : y ∈ t.over) (e : y.1 = z) : (t.job z).2 = true := by
  unfold Tb.job
  cases pos t.act z with
  | some i => rfl
  | none =>
    cases h : pos t.over z with
    | some i => rfl
    | none => exact absurd e (pos_none.1 h y hy)
/-- An active job is active behind a Do, or it was cancelled by that. -/
theorem act_do {t : Tb} (ho : t.ok) (q : Note.Q) {x : Jb} (hx : x ∈ t.act) : x ∈ (t.do q).2.act ∨ (q.k = 2 ∧ q.j = x.1 ∧ ((t.do q).2.job x.1).2 = true) := by
  by_cases hk : q.k = 3
  · left
    unfold Tb.do
    rw [if_pos hk]
    exact hx
  · rw [show t.do q = t.doPlain q by unfold Tb.do; rw [if_neg hk]]
    unfold Tb.doPlain
    split
    · rename_i hr
      split
      · exact .inl hx
      · split
        · exact .inl hx
        · have main : x ∈ (t.change q).2.act ∨ (q.k = 2 ∧ q.j = x.1 ∧ ∃ y ∈ (t.change q).2.over, y.1 = x.1) := by
            unfold Tb.change
            split
            · left
              unfold Tb.submit
              split
              · exact hx
              · split
                · exact hx
                · split
                  · exact hx
                  · exact List.mem_append_left _ hx
            · rename_i h1
              unfold Tb.cancel
              rcases at_cases t q.j with ⟨_, e⟩ | ⟨_, _, e⟩ | ⟨_, i, y, hp, hy, hz, e⟩
              · rw [e]; exact .inl hx
              · rw [e]; exact .inl hx
              · rw [e]
                by_cases hxy : x.1 = q.j
                · right
                  refine ⟨?_, hxy.symm, (y.1, y.2.1, y.2.2.1, y.2.2.2.1, 5, y.2.2.2.2.2), cut64_last _ _, by show y.1 = _; rw [hz, hxy]⟩
                  unfold Note.Q.right at hr
                  rw [if_neg h1] at hr
                  by_cases h2 : q.k = 2
                  · exact h2
                  · rw [if_neg (by omega)] at hr
                    simp at hr
                · left
                  show x ∈ t.act.eraseIdx i
                  obtain ⟨j, hj⟩ := List.getElem?_of_mem hx
                  rw [List.mem_eraseIdx_iff_getElem?]
                  refine ⟨j, ?_, hj⟩
                  rintro rfl
                  rw [hj] at hy
                  simp only [Option.some.injEq] at hy
                  subst hy
                  exact hxy hz
          split
          · rcases main with h | ⟨h1, h2, y, h3, h4⟩
            · exact .inl h
            · exact .inr ⟨h1, h2, job_over h3 h4⟩
          · rcases main with h | ⟨h1, h2, y, h3, h4⟩
            · exact .inl h
            · exact .inr ⟨h1, h2, job_over (t := { (t.change q).2 with rs := _ }) h3 h4⟩
    · exact .inl hx
theorem do_rs {t : Tb} (ho : t.ok) (q : Note.Q) {c : Nat} (hc : c ≠ q.cl) : (t.do q).2.rs.getD c Note.R.zero = t.rs.getD c Note.R.zero := by
  unfold Tb.do
  split
  · rfl
  · unfold Tb.doPlain
    obtain ⟨-, hrs, -⟩ := next_change ho q
    split
    · split
      · rfl
      · split
        · rfl
        · split
          · show (t.change q).2.rs.getD c _ = _
            rw [hrs]
          · show ((t.change q).2.rs.set q.cl _).getD c _ = _
            rw [hrs, List.getD_eq_getElem?_getD, List.getElem?_set, if_neg (Ne.symm hc), ← List.getD_eq_getElem?_getD]
    · rfl
/-- The reply to a Cancel of a job that there isn't, out of the client's last reply. -/
def rep77 (c s : Nat) (x : Note.R) : Note.R := if turn s x.s ≠ 0 then ⟨c, s, turn s x.s, 0, 0, 0⟩ else if s = x.s then x else ⟨c, s, 6, 0, 0, 0⟩
theorem do77 {t : Tb} (ho : t.ok) (hl : t.last < 77) {c s : Nat} (hc : c < 8) : t.do ⟨c, s, 2, 0, 0, 0, 77⟩ = ((rep77 c s (t.rs.getD c Note.R.zero), false), t) := by
  have hr : (⟨c, s, 2, 0, 0, 0, 77⟩ : Note.Q).right = true := by unfold Note.Q.right; simp [hc]
  have h1 : pos t.act 77 = none := pos_none.2 fun x hx => by have := ho.le x hx; omega
  have h2 : pos t.over 77 = none := pos_none.2 fun x hx => by have := ho.ole x hx; omega
  have hch : t.change ⟨c, s, 2, 0, 0, 0, 77⟩ = ((0, 6), t) := by
    unfold Tb.change
    rw [if_neg (by show ¬ (2 = 1); omega)]
    unfold Tb.cancel
    rcases at_cases t 77 with ⟨⟨i, e1⟩, e⟩ | ⟨_, _, e⟩ | ⟨_, i, x, hp, hx, hz, e⟩
    · rw [h2] at e1; cases e1
    · show (match t.at 77 with | (_, some (i, x)) => _ | (e, none) => ((0, e), t)) = _
      rw [e]
    · rw [h1] at hp; cases hp
  unfold Tb.do
  rw [if_neg (by show ¬ (2 = 3); omega)]
  unfold Tb.doPlain rep77
  rw [if_pos hr, hch]
  show (if turn s (t.rs.getD c Note.R.zero).s ≠ 0 then _ else _) = _
  by_cases ht : turn s (t.rs.getD c Note.R.zero).s ≠ 0
  · rw [if_pos ht, if_pos ht]
  · rw [if_neg ht, if_neg ht]
    by_cases hs : s = (t.rs.getD c Note.R.zero).s
    · rw [if_pos hs, if_pos hs]
    · rw [if_neg hs, if_neg hs, if_pos (by show (6 : Int) ≠ 0; omega)]

end Go.Proofs.Ytahiaifdfgkemaa
