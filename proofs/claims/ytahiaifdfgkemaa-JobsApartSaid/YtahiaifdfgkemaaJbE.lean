/-
  An active job is over.
-/
import Derived.Test.YtahiaifdfgkemaaJbL
import Derived.Test.YtahiaifdfgkemaaOrd
import Derived.Deep.Cut
namespace Go.Proofs.Ytahiaifdfgkemaa
open Go.RowKit
set_option linter.unusedVariables false
set_option linter.unusedSimpArgs false

def cut64 (l : List Jb) : List Jb := if 64 < l.length then l.drop 1 else l
def Tb.ended (t : Tb) (i : Nat) (y : Jb) : Tb := { t with act := t.act.eraseIdx i, over := cut64 (t.over ++ [y]) }
theorem jcels_erase (l : List Jb) (i : Nat) : (jcels l).take (i * 6) ++ (jcels l).drop ((i + 1) * 6) = jcels (l.eraseIdx i) := by
  rw [jcels_take, jcels_drop, ← jcels_app, List.eraseIdx_eq_take_drop_succ]
theorem infoJ : (Try.prog.info? 44).map (fun i => (i.zero, i.size, i.bytes)) = some (some (.agg #[.int .u32 0, .int .u8 0, .int .i64 0, .int .i64 0, .int .u8 0, .int .i64 0]), 6, 40) := by kernel_rfl
theorem jcel_one (y : Jb) : ∀ u ∈ jcel y, u.oneCell' = true := by
  intro u hu
  have := jcels_one [y] u
  rw [show jcels [y] = jcel y by simp [jcels]] at this
  exact this hu
theorem op_apps2 {o : Oper} {a : Act} {Q : Exit → Act → World → Prop} {K : Act → World → Prop} {w : World} (TS TE : TypeId) (s x : Operand) (ho : o.op = .call { callee := .builtin .append, args := #[s, x], argTypes := #[TS, TS] }) (base k bytes : Nat) (z : Value) (ht : Try.prog.underlying TS = some (.slice TE)) (hinfo : (Try.prog.info? TE).map (fun i => (i.zero, i.size, i.bytes)) = some (some z, k, bytes)) (hzs : z.cells.size = k) (hk : 0 < k)
    (v u : Value) (n m N : Nat) (xs ys : List Value) (hs : a.eval s = v) (hx : a.eval x = u) (hown : w.ownsRow base TE k v n xs) (hsrc : SrcC w u m ys) (hyl : ys.length = m * k) (hone : ∀ y ∈ ys, y.oneCell' = true) (hN : N = n + m) (hlen : (n + m) * bytes ≤ 140737488355328) (hnm : n + m ≤ 140737488355328) (hbase : base ≤ w.heap.size)
    (h : ∀ ad cap w', w'.ownsRow base TE k (.slice ad N cap) N (xs ++ ys) → w.grownBy w' v.ownBlock → (∀ q, (Value.slice ad N cap).ownBlock = some q → v.ownBlock = some q ∨ w.heap.size ≤ q) → K (a.put o.dst (.slice ad N cap)) w') : o.wp Try.prog a w K Q := by
  subst hN
  obtain ⟨ad, cap, w', hrun, h1, h2, h3⟩ := run_apps2 w o.type base TS TE k bytes z ht hinfo hzs hk v u n m xs ys hown hsrc hyl hone hlen hnm hbase
  unfold Oper.wp
  simp [execOp, ho, resolve, invoke, builtin, hs, hx, hrun, Result.andThen]
  exact h ad cap w' h1 h2 h3
section
variable {w w' : World} {lo b : Nat} {va vo vo' va' : Value} {t : Tb} {y : Jb}
theorem TbAt.appOver (h : TbAt w lo b va vo t) (hk : Keeps (fun k => vo.ownBlock = some k) w w') (ho : w'.ownsRow lo 44 6 vo' (t.over.length + 1) (jcels t.over ++ jcel y)) (hp : ∀ q, vo'.ownBlock = some q → vo.ownBlock = some q ∨ w.heap.size ≤ q) (hl : t.over.length < 1000) :
    Stp w lo b va vo (w'.setCell ⟨b, 3, none⟩ vo') va vo' { t with over := t.over ++ [y] } := by
  have hb := (hk.block b h.lt (fun e => h.ne_o b e rfl)).trans h.blk
  have hoa : OwnJ w' lo va t.act := owns_by h.oa fun k e => hk.block k (World.ownsRow.lt h.oa k e).2 (fun e' => h.ap k e e')
  have hoo : OwnJ w' lo vo' (t.over ++ [y]) := by
    show World.ownsRow _ _ _ _ _ (t.over ++ [y]).length _
    rw [List.length_append, jcels_app, show jcels [y] = jcel y by simp [jcels]]
    exact ho
  refine ⟨TbAt.putOver hb hoa hoo (fun k e e' => ?_) h.lob h.la (by rw [List.length_append]; simp; omega) h.r8, ?_, fun k e => .inl e, hp⟩
  · rcases hp k e' with e2 | e2
    · exact h.ap k e e2
    · have := (World.ownsRow.lt h.oa k e).2; omega
  · exact (hk.mono fun k _ e => .inr (.inr e)).trans' (kset1 w' b 3 vo') (fun k _ e => .inl e)
theorem TbAt.appAct (h : TbAt w lo b va vo t) (hk : Keeps (fun k => va.ownBlock = some k) w w') (ho : w'.ownsRow lo 44 6 va' (t.act.length + 1) (jcels t.act ++ jcel y)) (hp : ∀ q, va'.ownBlock = some q → va.ownBlock = some q ∨ w.heap.size ≤ q) (hl : t.act.length < 1000) :
    Stp w lo b va vo (w'.setCell ⟨b, 2, none⟩ va') va' vo { t with act := t.act ++ [y] } := by
  have hb := (hk.block b h.lt (fun e => h.ne_a b e rfl)).trans h.blk
  have hoo : OwnJ w' lo vo t.over := owns_by h.oo fun k e => hk.block k (World.ownsRow.lt h.oo k e).2 (fun e' => h.ap k e' e)
  have hoa : OwnJ w' lo va' (t.act ++ [y]) := by
    show World.ownsRow _ _ _ _ _ (t.act ++ [y]).length _
    rw [List.length_append, jcels_app, show jcels [y] = jcel y by simp [jcels]]
    exact ho
  refine ⟨TbAt.putAct hb hoa hoo (fun k e e' => ?_) h.lob (by rw [List.length_append]; simp; omega) h.lv h.r8, ?_, hp, fun k e => .inl e⟩
  · rcases hp k e with e2 | e2
    · exact h.ap k e2 e'
    · have := (World.ownsRow.lt h.oo k e').2; omega
  · exact (hk.mono fun k _ e => .inr (.inl e)).trans' (kset1 w' b 2 va') (fun k _ e => .inl e)
theorem TbAt.delOver {g n c i : Nat} (h : TbAt w lo b va (.slice (some ⟨g, 0, none⟩) n c) t) (hk : Keeps (fun k => k = g) w w') (ho : w'.ownsRow lo 44 6 (.slice (some ⟨g, 0, none⟩) (n - 1) c) (n - 1) (jcels (t.over.eraseIdx i))) (hn : n = t.over.length) (hi : i < n) :
    Stp w lo b va (.slice (some ⟨g, 0, none⟩) n c) (w'.setCell ⟨b, 3, none⟩ (.slice (some ⟨g, 0, none⟩) (n - 1) c)) va (.slice (some ⟨g, 0, none⟩) (n - 1) c) { t with over := t.over.eraseIdx i } := by
  have hb := (hk.block b h.lt (fun e => h.ne_o g rfl e.symm)).trans h.blk
  have hoa : OwnJ w' lo va t.act := owns_by h.oa fun k e => hk.block k (World.ownsRow.lt h.oa k e).2 (fun e' => h.ap k e (e' ▸ rfl))
  have hl : (t.over.eraseIdx i).length = n - 1 := by rw [List.length_eraseIdx, if_pos (by omega), hn]
  refine ⟨TbAt.putOver hb hoa (by show World.ownsRow _ _ _ _ _ (t.over.eraseIdx i).length _; rw [hl]; exact ho) (fun k e e' => h.ap k e e') h.lob h.la (by have := h.lv; omega) h.r8, ?_, fun k e => .inl e, fun k e => .inl e⟩
  exact (hk.mono fun k _ e => .inr (.inr (by rw [e]; rfl))).trans' (kset1 w' b 3 _) (fun k _ e => .inl e)
theorem TbAt.delAct {g n c i : Nat} (h : TbAt w lo b (.slice (some ⟨g, 0, none⟩) n c) vo t) (hk : Keeps (fun k => k = g) w w') (ho : w'.ownsRow lo 44 6 (.slice (some ⟨g, 0, none⟩) (n - 1) c) (n - 1) (jcels (t.act.eraseIdx i))) (hn : n = t.act.length) (hi : i < n) :
    Stp w lo b (.slice (some ⟨g, 0, none⟩) n c) vo (w'.setCell ⟨b, 2, none⟩ (.slice (some ⟨g, 0, none⟩) (n - 1) c)) (.slice (some ⟨g, 0, none⟩) (n - 1) c) vo { t with act := t.act.eraseIdx i } := by
  have hb := (hk.block b h.lt (fun e => h.ne_a g rfl e.symm)).trans h.blk
  have hoo : OwnJ w' lo vo t.over := owns_by h.oo fun k e => hk.block k (World.ownsRow.lt h.oo k e).2 (fun e' => h.ap g rfl (e' ▸ e))
  have hl : (t.act.eraseIdx i).length = n - 1 := by rw [List.length_eraseIdx, if_pos (by omega), hn]
  refine ⟨TbAt.putAct hb (by show World.ownsRow _ _ _ _ _ (t.act.eraseIdx i).length _; rw [hl]; exact ho) hoo (fun k e e' => h.ap k e e') h.lob (by have := h.la; omega) h.lv h.r8, ?_, fun k e => .inl e, fun k e => .inl e⟩
  exact (hk.mono fun k _ e => .inr (.inl (by rw [e]; rfl))).trans' (kset1 w' b 2 _) (fun k _ e => .inl e)
end

set_option maxRecDepth 100000 in
set_option maxHeartbeats 4000000 in
theorem end_any (w : World) (lo b i st : Nat) (va vo : Value) (t : Tb) (x : Jb) (h : TbAt w lo b va vo t) (hp : pos t.act x.1 = some i) (hx : t.act[i]? = some x) (hv : t.over.length ≤ 64) (hlo : lo ≤ w.heap.size) :
    Calls Try.prog 24 #[.pointer (some ⟨b, 0, none⟩), .int .u32 (x.1 : Int), .int .u8 (st : Int)] w fun e w' => e = .returned (.tuple #[]) ∧ ∃ va' vo', Stp w lo b va vo w' va' vo' (t.ended i (x.1, x.2.1, x.2.2.1, x.2.2.2.1, st, x.2.2.2.2.2)) := by
  have hil := (List.getElem?_eq_some_iff.1 hx).1
  obtain ⟨g, c, ev, hc1, hc2⟩ : ∃ g c, va = .slice (some ⟨g, 0, none⟩) t.act.length c ∧ t.act.length ≤ c ∧ c ≤ 9223372036854775807 := by
    rcases owns_shape h.oa with ⟨_, h0⟩ | ⟨g, c, e, _, _, h3, h4⟩
    · omega
    · exact ⟨g, c, e, h3, h4⟩
  subst ev
  obtain ⟨n, hn⟩ : ∃ n, n = t.act.length := ⟨_, rfl⟩
  rw [← hn] at h hc1 hil ⊢
  have HN := hid hn
  have HPA := hid (place_any w _ t.act x.1 (by have := OwnJ.rd h.oa; exact this) (by have := h.la; omega))
  rw [posI_some hp] at HPA
  have H := hid h
  have HX := hid hx
  have HV := hid hv
  have hlb := h.lt
  have c2 := h.c2
  have HGL := hid (show g < w.heap.size from (World.ownsRow.lt h.oa g rfl).2)
  have hil' : (i : Int) < (n : Int) := by omega
  obtain ⟨x0, x1, x2, x3, x4, x5⟩ := x
  dsimp only at *
  have HNL := hid (show n ≤ 1000 by have := h.la; omega)
  clear h hx hv hp hn
  go_enter Try.func24, Try.ntmps24
  go_wp2_with fail
  refine HPA.out.mono ?_
  rintro e w1 ⟨rfl, hb1⟩
  have H1 := hid (H.out.below hb1)
  have c2' : w1.cell? ⟨b, 2, none⟩ = some (.slice (some ⟨g, 0, none⟩) n c) := H1.out.c2
  have HB1 := hid hb1
  obtain ⟨b0, off, c', ev, -, -, hbl, f0, f1, f2, f3, f4, f5⟩ := RdJ.item (OwnJ.rd H1.out.oa) HX.out
  simp only [Value.slice.injEq, Option.some.injEq, Addr.mk.injEq] at ev
  obtain ⟨⟨rfl, rfl, -⟩, -, -⟩ := ev
  simp only [Nat.zero_add] at f0 f1 f2 f3 f4 f5
  clear hb1 c2
  obtain ⟨w3, hw3⟩ : ∃ w3, w3 = w1.alloc (.cells #[.int .u32 (x0 : Int), .int .u8 (x1 : Int), .int .i64 x2, .int .i64 x3, .int .u8 (st : Int), .int .i64 x5] 44) := ⟨_, rfl⟩
  obtain ⟨g7, hg7⟩ : ∃ q, q = w1.heap.size := ⟨_, rfl⟩
  have hk3 : Below w1.heap.size w1 w3 := by rw [hw3]; exact (Below.refl _ w1).alloc (Nat.le_refl _) _
  have hx3 : w3.heap[g7]? = some (.cells #[.int .u32 (x0 : Int), .int .u8 (x1 : Int), .int .i64 x2, .int .i64 x3, .int .u8 (st : Int), .int .i64 x5] 44 (0, 0)) := by rw [hw3, hg7]; exact heap_alloc_new w1 _
  have H3 := hid (H1.out.below hk3)
  have HB3 := hid (HB1.out.trans (hk3.mono HB1.out.size))
  have HX3 := hid hx3
  have c2'' : w3.cell? ⟨b, 2, none⟩ = some (.slice (some ⟨g, 0, none⟩) n c) := H3.out.c2
  rw [hw3] at c2''
  have HG7 := hid (show w.heap.size ≤ g7 by have := HB1.out.size; omega)
  have HW3 := hid hw3
  have HGG := hid hg7
  have HDE := hid (delete_any w3 lo g n c i (jcels t.act) (by have := H3.out.oa; rw [OwnJ, ← HN.out] at this; exact this) (by omega) (by have := HNL.out; omega) (jcels_one _))
  clear hw3 hx3 hk3 hg7 hbl
  have q4 : IntKind.i64.wrap ((i : Int) + 1) = (i : Int) + 1 := by rw [IntKind.wrap_i64]; have := HNL.out; omega
  go_wp2_with fail
  rw [← HW3.out]
  clear c2' c2'' f0 f1 f2 f3 f4 f5 q4
  refine HDE.out.mono ?_
  rintro e w4 ⟨rfl, ho4, hk4⟩
  have h5 := TbAt.delAct (i := i) H3.out hk4 (by rw [← jcels_erase]; exact ho4) HN.out (by omega)
  have hgb : g ≠ b := H3.out.ne_a g rfl
  have c2 : w4.cell? ⟨b, 2, none⟩ = some (.slice (some ⟨g, 0, none⟩) n c) := (hk4.cell (p := ⟨b, 2, none⟩) H3.out.lt (Ne.symm hgb)).trans H3.out.c2
  have z2 : w4.frozen? ⟨b, 2, none⟩ = false := (hk4.frozen (p := ⟨b, 2, none⟩) H3.out.lt (Ne.symm hgb)).trans (H3.out.fr 2)
  have H5 := hid h5
  have hx5 := HX3.out
  have HX5 := hid (show (w4.setCell ⟨b, 2, none⟩ (.slice (some ⟨g, 0, none⟩) (n - 1) c)).heap[g7]? = _ from (h5.k.block g7 (Array.getElem?_eq_some_iff.1 HX3.out).1 (by
    rintro (e | e | e)
    · have h1 := HG7.out; omega
    · have h1 := HGL.out; have h2 := HG7.out; have h3 : g = g7 := Option.some.inj e; omega
    · have := (World.ownsRow.lt H.out.oo g7 e).2; have := HG7.out; omega)).trans HX3.out)
  clear h5 ho4 hk4 hx5
  obtain ⟨w5, hw5⟩ : ∃ w5, w5 = w4.setCell ⟨b, 2, none⟩ (.slice (some ⟨g, 0, none⟩) (n - 1) c) := ⟨_, rfl⟩
  go_upto_region 4 with (fail)
  rw [← hw5] at H5 HX5 ⊢
  clear c2 z2 hw5 H1 HB1
  rw [← HGG.out]
  obtain ⟨am, cm, hvo, hm1, hm2⟩ := owns_slice H5.out.tb.oo
  dsimp only at hvo hm1
  subst hvo
  obtain ⟨m, hm⟩ : ∃ m, m = t.over.length := ⟨_, rfl⟩
  have HM := hid hm
  have HV' := hid (show m ≤ 64 by have := HV.out; omega)
  rw [← hm] at hm1 H H3 H5
  obtain ⟨y, hy⟩ : ∃ y : Jb, y = (x0, x1, x2, x3, st, x5) := ⟨_, rfl⟩
  have HY := hid hy
  clear hm hy
  have HNB := hid (show ¬ ((Value.slice am m cm).ownBlock = some g7) from fun e => by have := (World.ownsRow.lt H.out.oo g7 e).2; have := HG7.out; omega)
  refine Orders.begins (C := []) (by kernel_rfl) ?_
  refine Orders.inv_at (I := fun L A a w => ∃ (b0 b1 b2 b3 b4 b5 b6 b7 b8 b9 b10 : Bool) (v34 v35 v36 v37 v38 v39 v40 v41 v42 v43 : Value), L = #[b0, b1, b2, b3, b4, b5, b6, b7, b8, b9, b10] ∧ a = ((((((((((A.put (some 34) v34).put (some 35) v35).put (some 36) v36).put (some 37) v37).put (some 38) v38).put (some 39) v39).put (some 40) v40).put (some 41) v41).put (some 42) v42).put (some 43) v43) ∧ (b10 = false → Keeps (fun k => (Value.slice am m cm).ownBlock = some k) w5 w) ∧ (b7 = false → w.ownsRow lo 44 6 (.slice am m cm) m (jcels t.over)) ∧ (b10 = true → ∃ ad cap, Stp w5 lo b (.slice (some ⟨g, 0, none⟩) (n - 1) c) (.slice am m cm) w (.slice (some ⟨g, 0, none⟩) (n - 1) c) (.slice ad (m + 1) cap) { t with act := t.act.eraseIdx i, over := t.over ++ [(x0, x1, x2, x3, st, x5)] }) ∧ (b7 = true → b4 = true ∧ b6 = true) ∧ (b10 = true → b0 = true ∧ b1 = true ∧ b2 = true ∧ b3 = true ∧ b4 = true ∧ b5 = true ∧ b6 = true ∧ b7 = true ∧ b9 = true) ∧ (b0 = true → v34 = .pointer (some ⟨b, 0, none⟩)) ∧ (b1 = true → v35 = .pointer (some ⟨b, 0, none⟩)) ∧ (b2 = true → v36 = .pointer (some ⟨b, 0, none⟩)) ∧ (b3 = true → v37 = .pointer (some ⟨b, 3, none⟩)) ∧ (b4 = true → v38 = .slice am m cm) ∧ (b5 = true → v39 = .agg #[.int .u32 (x0 : Int), .int .u8 (x1 : Int), .int .i64 x2, .int .i64 x3, .int .u8 (st : Int), .int .i64 x5]) ∧ (b6 = true → (b7 = false → SrcC w v40 1 (jcel (x0, x1, x2, x3, st, x5)))) ∧ (b7 = true → (b10 = false → ∃ ad cap, v41 = .slice ad (m + 1) cap ∧ w.ownsRow lo 44 6 v41 (m + 1) (jcels t.over ++ jcel (x0, x1, x2, x3, st, x5)) ∧ ∀ q, v41.ownBlock = some q → (Value.slice am m cm).ownBlock = some q ∨ w5.heap.size ≤ q)) ∧ (b8 = true → v42 = .pointer (some ⟨b, 0, none⟩)) ∧ (b9 = true → v43 = .pointer (some ⟨b, 3, none⟩))) ?start ?step ?fin (by kernel_rfl)
  case start => exact ⟨false, false, false, false, false, false, false, false, false, false, false, undef, undef, undef, undef, undef, undef, undef, undef, undef, undef, rfl, by simp only [Act.put, List.getElem_toArray, List.getElem_cons_succ, List.getElem_cons_zero, List.setIfInBounds_toArray, List.set_cons_zero, List.set_cons_succ], (fun _ => (Keeps.refl _ _).drew), (fun _ => by have h1 := H5.out.tb.oo; rw [OwnJ, ← HM.out] at h1; exact h1), (fun h => Bool.noConfusion h), (fun h => Bool.noConfusion h), (fun h => Bool.noConfusion h), (fun h => Bool.noConfusion h), (fun h => Bool.noConfusion h), (fun h => Bool.noConfusion h), (fun h => Bool.noConfusion h), (fun h => Bool.noConfusion h), (fun h => Bool.noConfusion h), (fun h => Bool.noConfusion h), (fun h => Bool.noConfusion h), (fun h => Bool.noConfusion h), (fun h => Bool.noConfusion h)⟩
  case step =>
    rintro L a w' i ⟨b0, b1, b2, b3, b4, b5, b6, b7, b8, b9, b10, v34, v35, v36, v37, v38, v39, v40, v41, v42, v43, rfl, rfl, HW0, HO7, HF, D7, D10, C0, C1, C2, C3, C4, C5, C6, C7, C8, C9⟩ hi
    obtain ⟨hlt, hu, hn⟩ := ready_has [[], [], [1], [2], [3], [], [5], [4, 6], [0, 1, 2, 3, 4, 5, 6, 7], [0, 1, 2, 3, 4, 5, 6, 7, 8], [0, 1, 2, 3, 4, 5, 6, 7, 9]] (by kernel_rfl) (by kernel_rfl) hi
    clear hi
    have hc : i = 0 ∨ i = 1 ∨ i = 2 ∨ i = 3 ∨ i = 4 ∨ i = 5 ∨ i = 6 ∨ i = 7 ∨ i = 8 ∨ i = 9 ∨ i = 10 := by
      have hlt' : i < 11 := hlt
      clear hlt hu hn
      omega
    clear hlt
    rcases hc with rfl | rfl | rfl | rfl | rfl | rfl | rfl | rfl | rfl | rfl | rfl
    · obtain rfl : b0 = false := hu
      clear hn
      refine wpOp_shut rfl (fun K' hK => ?_)
      simp only [Act.put, List.getElem_toArray, List.getElem_cons_succ, List.getElem_cons_zero, List.setIfInBounds_toArray, List.set_cons_zero, List.set_cons_succ]
      go_simp
      refine hK.out _ _ ⟨true, b1, b2, b3, b4, b5, b6, b7, b8, b9, b10, (.pointer (some ⟨b, 0, none⟩)), v35, v36, v37, v38, v39, v40, v41, v42, v43, rfl, by simp only [Act.put, List.getElem_toArray, List.getElem_cons_succ, List.getElem_cons_zero, List.setIfInBounds_toArray, List.set_cons_zero, List.set_cons_succ], HW0, HO7, HF, D7, (fun h => absurd (D10 h) (by simp)), (fun _ => rfl), C1, C2, C3, C4, C5, C6, C7, C8, C9⟩
    · obtain rfl : b1 = false := hu
      clear hn
      refine wpOp_shut rfl (fun K' hK => ?_)
      simp only [Act.put, List.getElem_toArray, List.getElem_cons_succ, List.getElem_cons_zero, List.setIfInBounds_toArray, List.set_cons_zero, List.set_cons_succ]
      go_simp
      refine hK.out _ _ ⟨b0, true, b2, b3, b4, b5, b6, b7, b8, b9, b10, v34, (.pointer (some ⟨b, 0, none⟩)), v36, v37, v38, v39, v40, v41, v42, v43, rfl, by simp only [Act.put, List.getElem_toArray, List.getElem_cons_succ, List.getElem_cons_zero, List.setIfInBounds_toArray, List.set_cons_zero, List.set_cons_succ], HW0, HO7, HF, D7, (fun h => absurd (D10 h) (by simp)), C0, (fun _ => rfl), C2, C3, C4, C5, C6, C7, C8, C9⟩
    · obtain rfl : b2 = false := hu
      obtain rfl : b1 = true := hn 1 (by decide)
      clear hn
      refine wpOp_shut rfl (fun K' hK => ?_)
      simp only [Act.put, List.getElem_toArray, List.getElem_cons_succ, List.getElem_cons_zero, List.setIfInBounds_toArray, List.set_cons_zero, List.set_cons_succ]
      obtain rfl := C1 rfl
      go_simp
      refine hK.out _ _ ⟨b0, true, true, b3, b4, b5, b6, b7, b8, b9, b10, v34, (.pointer (some ⟨b, 0, none⟩)), (.pointer (some ⟨b, 0, none⟩)), v37, v38, v39, v40, v41, v42, v43, rfl, by simp only [Act.put, List.getElem_toArray, List.getElem_cons_succ, List.getElem_cons_zero, List.setIfInBounds_toArray, List.set_cons_zero, List.set_cons_succ], HW0, HO7, HF, D7, (fun h => absurd (D10 h) (by simp)), C0, C1, (fun _ => rfl), C3, C4, C5, C6, C7, C8, C9⟩
    · obtain rfl : b3 = false := hu
      obtain rfl : b2 = true := hn 2 (by decide)
      clear hn
      refine wpOp_shut rfl (fun K' hK => ?_)
      simp only [Act.put, List.getElem_toArray, List.getElem_cons_succ, List.getElem_cons_zero, List.setIfInBounds_toArray, List.set_cons_zero, List.set_cons_succ]
      obtain rfl := C2 rfl
      go_simp
      refine hK.out _ _ ⟨b0, b1, true, true, b4, b5, b6, b7, b8, b9, b10, v34, v35, (.pointer (some ⟨b, 0, none⟩)), (.pointer (some ⟨b, 3, none⟩)), v38, v39, v40, v41, v42, v43, rfl, by simp only [Act.put, List.getElem_toArray, List.getElem_cons_succ, List.getElem_cons_zero, List.setIfInBounds_toArray, List.set_cons_zero, List.set_cons_succ], HW0, HO7, HF, D7, (fun h => absurd (D10 h) (by simp)), C0, C1, C2, (fun _ => rfl), C4, C5, C6, C7, C8, C9⟩
    · obtain rfl : b4 = false := hu
      obtain rfl : b3 = true := hn 3 (by decide)
      clear hn
      refine wpOp_shut rfl (fun K' hK => ?_)
      simp only [Act.put, List.getElem_toArray, List.getElem_cons_succ, List.getElem_cons_zero, List.setIfInBounds_toArray, List.set_cons_zero, List.set_cons_succ]
      obtain rfl := C3 rfl
      obtain rfl : b10 = false := by
        cases b10 with
        | false => rfl
        | true => exact absurd (D10 rfl) (by simp)
      have HW := HW0 rfl
      have e3 : w'.cell? ⟨b, 3, none⟩ = some (.slice am m cm) := (HW.cell (p := ⟨b, 3, none⟩) H5.out.tb.lt (fun e => H5.out.tb.ne_o b e rfl)).trans H5.out.tb.c3
      clear HW
      go_simp
      refine hK.out _ _ ⟨b0, b1, b2, true, true, b5, b6, b7, b8, b9, false, v34, v35, v36, (.pointer (some ⟨b, 3, none⟩)), (.slice am m cm), v39, v40, v41, v42, v43, rfl, by simp only [Act.put, List.getElem_toArray, List.getElem_cons_succ, List.getElem_cons_zero, List.setIfInBounds_toArray, List.set_cons_zero, List.set_cons_succ], HW0, HO7, HF, (fun h => absurd (D7 h) (by simp)), (fun h => Bool.noConfusion h), C0, C1, C2, C3, (fun _ => rfl), C5, C6, C7, C8, C9⟩
    · obtain rfl : b5 = false := hu
      clear hn
      refine wpOp_shut rfl (fun K' hK => ?_)
      simp only [Act.put, List.getElem_toArray, List.getElem_cons_succ, List.getElem_cons_zero, List.setIfInBounds_toArray, List.set_cons_zero, List.set_cons_succ]
      obtain rfl : b10 = false := by
        cases b10 with
        | false => rfl
        | true => exact absurd (D10 rfl) (by simp)
      have HW := HW0 rfl
      have hxx := (HW.block g7 (Array.getElem?_eq_some_iff.1 HX5.out).1 HNB.out).trans HX5.out
      have e0 : w'.cell? ⟨g7, 0, none⟩ = some (.int .u32 (x0 : Int)) := (cell_of_row _ _ _ _ _ _ hxx).trans rfl
      have e1 : w'.cell? ⟨g7, 1, none⟩ = some (.int .u8 (x1 : Int)) := (cell_of_row _ _ _ _ _ _ hxx).trans rfl
      have e2 : w'.cell? ⟨g7, 2, none⟩ = some (.int .i64 x2) := (cell_of_row _ _ _ _ _ _ hxx).trans rfl
      have e3 : w'.cell? ⟨g7, 3, none⟩ = some (.int .i64 x3) := (cell_of_row _ _ _ _ _ _ hxx).trans rfl
      have e4 : w'.cell? ⟨g7, 4, none⟩ = some (.int .u8 (st : Int)) := (cell_of_row _ _ _ _ _ _ hxx).trans rfl
      have e5 : w'.cell? ⟨g7, 5, none⟩ = some (.int .i64 x5) := (cell_of_row _ _ _ _ _ _ hxx).trans rfl
      clear HW
      go_simp
      refine hK.out _ _ ⟨b0, b1, b2, b3, b4, true, b6, b7, b8, b9, false, v34, v35, v36, v37, v38, (.agg #[.int .u32 (x0 : Int), .int .u8 (x1 : Int), .int .i64 x2, .int .i64 x3, .int .u8 (st : Int), .int .i64 x5]), v40, v41, v42, v43, rfl, by simp only [Act.put, List.getElem_toArray, List.getElem_cons_succ, List.getElem_cons_zero, List.setIfInBounds_toArray, List.set_cons_zero, List.set_cons_succ], HW0, HO7, HF, D7, (fun h => Bool.noConfusion h), C0, C1, C2, C3, C4, (fun _ => rfl), C6, C7, C8, C9⟩
    · obtain rfl : b6 = false := hu
      obtain rfl : b5 = true := hn 5 (by decide)
      clear hn
      refine wpOp_shut rfl (fun K' hK => ?_)
      simp only [Act.put, List.getElem_toArray, List.getElem_cons_succ, List.getElem_cons_zero, List.setIfInBounds_toArray, List.set_cons_zero, List.set_cons_succ]
      obtain rfl := C5 rfl
      obtain rfl : b10 = false := by
        cases b10 with
        | false => rfl
        | true => exact absurd (D10 rfl) (by simp)
      obtain rfl : b7 = false := by
        cases b7 with
        | false => rfl
        | true => exact absurd (D7 rfl) (by simp)
      go_simp
      refine hK.out _ _ ⟨b0, b1, b2, b3, b4, true, true, false, b8, b9, false, v34, v35, v36, v37, v38, (.agg #[.int .u32 (x0 : Int), .int .u8 (x1 : Int), .int .i64 x2, .int .i64 x3, .int .u8 (st : Int), .int .i64 x5]), (.slice (some ⟨w'.heap.size, 0, none⟩) 1 1), v41, v42, v43, rfl, by simp only [Act.put, List.getElem_toArray, List.getElem_cons_succ, List.getElem_cons_zero, List.setIfInBounds_toArray, List.set_cons_zero, List.set_cons_succ], (fun _ => (HW0 rfl).alloc _), (fun _ => owns_below (HO7 rfl) ((Below.refl _ _).alloc (Nat.le_refl _) _)), (fun h => Bool.noConfusion h), (fun h => Bool.noConfusion h), (fun h => Bool.noConfusion h), C0, C1, C2, C3, C4, C5, (fun _ _ => SrcC.lit w' _ _ 1 _ rfl), (fun h => Bool.noConfusion h), C8, C9⟩
    · obtain rfl : b7 = false := hu
      obtain rfl : b4 = true := hn 4 (by decide)
      obtain rfl : b6 = true := hn 6 (by decide)
      clear hn
      refine wpOp_shut rfl (fun K' hK => ?_)
      simp only [Act.put, List.getElem_toArray, List.getElem_cons_succ, List.getElem_cons_zero, List.setIfInBounds_toArray, List.set_cons_zero, List.set_cons_succ]
      obtain rfl : b10 = false := by
        cases b10 with
        | false => rfl
        | true => exact absurd (D10 rfl) (by simp)
      obtain rfl := C4 rfl
      have hs6 := C6 rfl rfl
      have HW := HW0 rfl
      rw [if_pos (by rfl)]
      refine op_apps2 41 44 (.tmp 38) (.tmp 40) rfl lo 6 40 _ Try.underlying41 infoJ rfl (by decide) (.slice am m cm) v40 m 1 (m + 1) (jcels t.over) (jcel (x0, x1, x2, x3, st, x5)) rfl rfl (HO7 rfl) hs6 rfl (jcel_one _) rfl (by have := HV'.out; omega) (by have := HV'.out; omega) (by have := HW.size; have := H5.out.tb.lt; have := H5.out.tb.lob; omega) ?_
      intro ad cap w6 ho6 hg6 hp6
      refine hK.out _ _ ⟨b0, b1, b2, b3, true, b5, true, true, b8, b9, false, v34, v35, v36, v37, (.slice am m cm), v39, v40, (.slice ad (m + 1) cap), v42, v43, rfl, by simp only [Act.put, List.getElem_toArray, List.getElem_cons_succ, List.getElem_cons_zero, List.setIfInBounds_toArray, List.set_cons_zero, List.set_cons_succ], (fun _ => HW.trans' (Keeps.of_grown hg6) (fun k _ e => e)), (fun h => Bool.noConfusion h), (fun h => Bool.noConfusion h), (fun _ => ⟨rfl, rfl⟩), (fun h => Bool.noConfusion h), C0, C1, C2, C3, C4, C5, (fun _ h => Bool.noConfusion h), (fun _ _ => ⟨ad, cap, rfl, ho6, fun q hq => (hp6 q hq).imp id fun h => Nat.le_trans HW.size h⟩), C8, C9⟩
    · obtain rfl : b8 = false := hu
      obtain rfl : b0 = true := hn 0 (by decide)
      obtain rfl : b1 = true := hn 1 (by decide)
      obtain rfl : b2 = true := hn 2 (by decide)
      obtain rfl : b3 = true := hn 3 (by decide)
      obtain rfl : b4 = true := hn 4 (by decide)
      obtain rfl : b5 = true := hn 5 (by decide)
      obtain rfl : b6 = true := hn 6 (by decide)
      obtain rfl : b7 = true := hn 7 (by decide)
      clear hn
      refine wpOp_shut rfl (fun K' hK => ?_)
      simp only [Act.put, List.getElem_toArray, List.getElem_cons_succ, List.getElem_cons_zero, List.setIfInBounds_toArray, List.set_cons_zero, List.set_cons_succ]
      obtain rfl := C0 rfl
      obtain rfl := C1 rfl
      obtain rfl := C2 rfl
      obtain rfl := C3 rfl
      obtain rfl := C4 rfl
      obtain rfl := C5 rfl
      go_simp
      refine hK.out _ _ ⟨true, true, true, true, true, true, true, true, true, b9, b10, (.pointer (some ⟨b, 0, none⟩)), (.pointer (some ⟨b, 0, none⟩)), (.pointer (some ⟨b, 0, none⟩)), (.pointer (some ⟨b, 3, none⟩)), (.slice am m cm), (.agg #[.int .u32 (x0 : Int), .int .u8 (x1 : Int), .int .i64 x2, .int .i64 x3, .int .u8 (st : Int), .int .i64 x5]), v40, v41, (.pointer (some ⟨b, 0, none⟩)), v43, rfl, by simp only [Act.put, List.getElem_toArray, List.getElem_cons_succ, List.getElem_cons_zero, List.setIfInBounds_toArray, List.set_cons_zero, List.set_cons_succ], HW0, HO7, HF, D7, D10, C0, C1, C2, C3, C4, C5, C6, C7, (fun _ => rfl), C9⟩
    · obtain rfl : b9 = false := hu
      obtain rfl : b0 = true := hn 0 (by decide)
      obtain rfl : b1 = true := hn 1 (by decide)
      obtain rfl : b2 = true := hn 2 (by decide)
      obtain rfl : b3 = true := hn 3 (by decide)
      obtain rfl : b4 = true := hn 4 (by decide)
      obtain rfl : b5 = true := hn 5 (by decide)
      obtain rfl : b6 = true := hn 6 (by decide)
      obtain rfl : b7 = true := hn 7 (by decide)
      obtain rfl : b8 = true := hn 8 (by decide)
      clear hn
      refine wpOp_shut rfl (fun K' hK => ?_)
      simp only [Act.put, List.getElem_toArray, List.getElem_cons_succ, List.getElem_cons_zero, List.setIfInBounds_toArray, List.set_cons_zero, List.set_cons_succ]
      obtain rfl := C0 rfl
      obtain rfl := C1 rfl
      obtain rfl := C2 rfl
      obtain rfl := C3 rfl
      obtain rfl := C4 rfl
      obtain rfl := C5 rfl
      obtain rfl := C8 rfl
      go_simp
      refine hK.out _ _ ⟨true, true, true, true, true, true, true, true, true, true, b10, (.pointer (some ⟨b, 0, none⟩)), (.pointer (some ⟨b, 0, none⟩)), (.pointer (some ⟨b, 0, none⟩)), (.pointer (some ⟨b, 3, none⟩)), (.slice am m cm), (.agg #[.int .u32 (x0 : Int), .int .u8 (x1 : Int), .int .i64 x2, .int .i64 x3, .int .u8 (st : Int), .int .i64 x5]), v40, v41, (.pointer (some ⟨b, 0, none⟩)), (.pointer (some ⟨b, 3, none⟩)), rfl, by simp only [Act.put, List.getElem_toArray, List.getElem_cons_succ, List.getElem_cons_zero, List.setIfInBounds_toArray, List.set_cons_zero, List.set_cons_succ], HW0, HO7, HF, D7, (fun h => absurd (D10 h) (by simp)), C0, C1, C2, C3, C4, C5, C6, C7, C8, (fun _ => rfl)⟩
    · obtain rfl : b10 = false := hu
      obtain rfl : b0 = true := hn 0 (by decide)
      obtain rfl : b1 = true := hn 1 (by decide)
      obtain rfl : b2 = true := hn 2 (by decide)
      obtain rfl : b3 = true := hn 3 (by decide)
      obtain rfl : b4 = true := hn 4 (by decide)
      obtain rfl : b5 = true := hn 5 (by decide)
      obtain rfl : b6 = true := hn 6 (by decide)
      obtain rfl : b7 = true := hn 7 (by decide)
      obtain rfl : b9 = true := hn 9 (by decide)
      clear hn
      refine wpOp_shut rfl (fun K' hK => ?_)
      simp only [Act.put, List.getElem_toArray, List.getElem_cons_succ, List.getElem_cons_zero, List.setIfInBounds_toArray, List.set_cons_zero, List.set_cons_succ]
      obtain rfl := C0 rfl
      obtain rfl := C1 rfl
      obtain rfl := C2 rfl
      obtain rfl := C3 rfl
      obtain rfl := C4 rfl
      obtain rfl := C5 rfl
      obtain rfl := C9 rfl
      obtain ⟨ad, cap, rfl, ho6, hp6⟩ := C7 rfl rfl
      have HW := HW0 rfl
      have e3 : w'.cell? ⟨b, 3, none⟩ = some (.slice am m cm) := (HW.cell (p := ⟨b, 3, none⟩) H5.out.tb.lt (fun e => H5.out.tb.ne_o b e rfl)).trans H5.out.tb.c3
      have z3 : w'.frozen? ⟨b, 3, none⟩ = false := (HW.frozen (p := ⟨b, 3, none⟩) H5.out.tb.lt (fun e => H5.out.tb.ne_o b e rfl)).trans (H5.out.tb.fr 3)
      have hst := H5.out.tb.appOver (y := (x0, x1, x2, x3, st, x5)) HW (vo' := .slice ad (m + 1) cap) (show w'.ownsRow _ _ _ _ (t.over.length + 1) (jcels t.over ++ _) by rw [← HM.out]; exact ho6) hp6 (by have := HV.out; show t.over.length < 1000; omega)
      have HST := hid hst
      clear hst
      go_simp
      refine hK.out _ _ ⟨true, true, true, true, true, true, true, true, b8, true, true, (.pointer (some ⟨b, 0, none⟩)), (.pointer (some ⟨b, 0, none⟩)), (.pointer (some ⟨b, 0, none⟩)), (.pointer (some ⟨b, 3, none⟩)), (.slice am m cm), (.agg #[.int .u32 (x0 : Int), .int .u8 (x1 : Int), .int .i64 x2, .int .i64 x3, .int .u8 (st : Int), .int .i64 x5]), v40, (.slice ad (m + 1) cap), v42, (.pointer (some ⟨b, 3, none⟩)), rfl, by simp only [Act.put, List.getElem_toArray, List.getElem_cons_succ, List.getElem_cons_zero, List.setIfInBounds_toArray, List.set_cons_zero, List.set_cons_succ], (fun h => Bool.noConfusion h), (fun h => Bool.noConfusion h), (fun _ => ⟨ad, cap, HST.out⟩), D7, (fun _ => ⟨rfl, rfl, rfl, rfl, rfl, rfl, rfl, rfl, rfl⟩), C0, C1, C2, C3, C4, C5, (fun _ h => Bool.noConfusion h), (fun _ h => Bool.noConfusion h), C8, C9⟩
  case fin =>
    rintro L a w' ⟨b0, b1, b2, b3, b4, b5, b6, b7, b8, b9, b10, v34, v35, v36, v37, v38, v39, v40, v41, v42, v43, rfl, rfl, HW0, HO7, HF, D7, D10, C0, C1, C2, C3, C4, C5, C6, C7, C8, C9⟩ hr
    have hz : b0 = true ∧ b1 = true ∧ b2 = true ∧ b3 = true ∧ b4 = true ∧ b5 = true ∧ b6 = true ∧ b7 = true ∧ b8 = true ∧ b9 = true ∧ b10 = true := by
      have h := ready_done (by kernel_rfl) (by kernel_rfl) hr
      simpa only [List.all_cons, List.all_nil, id, Bool.and_true, Bool.and_eq_true] using h
    obtain ⟨rfl, rfl, rfl, rfl, rfl, rfl, rfl, rfl, rfl, rfl, rfl⟩ := hz
    clear hr
    simp only [Act.put, List.getElem_toArray, List.getElem_cons_succ, List.getElem_cons_zero, List.setIfInBounds_toArray, List.set_cons_zero, List.set_cons_succ]
    obtain rfl := C9 rfl
    obtain ⟨ad, cap, HS⟩ := HF rfl
    have HS6 := hid HS
    have c3 : w'.cell? ⟨b, 3, none⟩ = some (.slice ad (m + 1) cap) := HS.tb.c3
    clear D7 D10 C0 C1 C2 C3 C4 C5 C6 C7 C8 C9 HW0 HO7 HF HS
    have HF5 := hid (Stp.trans (Stp.of_below H.out HB3.out) (Stp.trans H5.out HS6.out))
    obtain ⟨w6, hw6⟩ : ∃ z, z = w' := ⟨_, rfl⟩
    by_cases hm64 : m = 64
    · have hmi : ((m : Int) + 1 > 64) = True := eq_true (by omega)
      have hmd : decide ((64 : Int) < (m : Int) + 1) = true := decide_eq_true (by omega)
      obtain ⟨go, co, ev, ho1, ho2⟩ : ∃ go co, (Value.slice ad (m + 1) cap) = .slice (some ⟨go, 0, none⟩) (m + 1) co ∧ m + 1 ≤ co ∧ co ≤ 9223372036854775807 := by
        rcases owns_shape HS6.out.tb.oo with ⟨_, h0⟩ | ⟨go, co, e, _, _, h3, h4⟩
        · simp at h0
        · have e2 : (t.over ++ [(x0, x1, x2, x3, st, x5)]).length = m + 1 := by rw [List.length_append, HM.out]; rfl
          rw [e2] at e h3
          exact ⟨go, co, e, h3, h4⟩
      simp only [Value.slice.injEq, true_and] at ev
      obtain ⟨rfl, rfl⟩ := ev
      have HD2 := hid (delete_any w' lo go (m + 1) cap 0 (jcels (t.over ++ [(x0, x1, x2, x3, st, x5)])) (by
        have h1 := HS6.out.tb.oo
        have e2 : (t.over ++ [(x0, x1, x2, x3, st, x5)]).length = m + 1 := by rw [List.length_append, HM.out]; rfl
        rw [OwnJ, e2] at h1
        exact h1) (by omega) (by omega) (jcels_one _))
      rw [show ((0 : Nat) : Int) = 0 from rfl, Int.zero_add] at HD2
      have HM64 := hid hm64
      clear hm64
      go_wp2_with fail
      refine HD2.out.mono ?_
      rintro e w7 ⟨rfl, ho7, hk7⟩
      have h8 := TbAt.delOver (i := 0) HS6.out.tb hk7 (by rw [← jcels_erase]; exact ho7) (by rw [List.length_append, HM.out]; rfl) (by omega)
      have hgb2 : go ≠ b := HS6.out.tb.ne_o go rfl
      have c3' : w7.cell? ⟨b, 3, none⟩ = some (.slice (some ⟨go, 0, none⟩) (m + 1) cap) := (hk7.cell (p := ⟨b, 3, none⟩) HS6.out.tb.lt (Ne.symm hgb2)).trans HS6.out.tb.c3
      have z3' : w7.frozen? ⟨b, 3, none⟩ = false := (hk7.frozen (p := ⟨b, 3, none⟩) HS6.out.tb.lt (Ne.symm hgb2)).trans (HS6.out.tb.fr 3)
      have H8 := hid (Stp.trans HF5.out h8)
      have HL := hid (show cut64 (t.over ++ [(x0, x1, x2, x3, st, x5)]) = (t.over ++ [(x0, x1, x2, x3, st, x5)]).eraseIdx 0 by
        unfold cut64
        rw [if_pos (by rw [List.length_append]; have := HM64.out; have := HM.out; simp; omega)]
        cases t.over <;> rfl)
      clear h8 ho7 hk7
      go_wp2_with fail
      go_end0
      have hfin := H8.out
      rw [← HL.out] at hfin
      first
        | exact ⟨rfl, _, _, hfin⟩
        | (have e := HM.out; subst e; exact ⟨rfl, _, _, hfin⟩)
    · have hmi : ((m : Int) + 1 > 64) = False := eq_false (by have := HV'.out; omega)
      have hmd : decide ((64 : Int) < (m : Int) + 1) = false := decide_eq_false (by have := HV'.out; omega)
      have HL := hid (show cut64 (t.over ++ [(x0, x1, x2, x3, st, x5)]) = t.over ++ [(x0, x1, x2, x3, st, x5)] by
        unfold cut64
        rw [if_neg (by rw [List.length_append]; have := HV'.out; have := HM.out; simp; omega)])
      clear hm64
      go_wp2_with fail
      go_end0
      have hfin := HF5.out
      rw [← HL.out] at hfin
      first
        | exact ⟨rfl, _, _, hfin⟩
        | (have e := HM.out; subst e; exact ⟨rfl, _, _, hfin⟩)

end Go.Proofs.Ytahiaifdfgkemaa
