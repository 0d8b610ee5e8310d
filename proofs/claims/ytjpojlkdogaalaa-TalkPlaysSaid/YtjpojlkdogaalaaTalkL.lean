/-
  Layer 10: Tick: what is told again.
-/
import Derived.Test.YtjpojlkdogaalaaTalkK
namespace Go.Proofs.Ytjpojlkdogaalaa
open Go.RowKit
set_option linter.unusedVariables false
set_option linter.unusedSimpArgs false

set_option maxHeartbeats 8000000 in
theorem tick_told (base : B9) (b : Nat) (s : Tk) (w : World) (h : TkAt w base b s) (hb : base.n ≤ w.heap.size) (hc : s.clock < 1000000) (hd : s.tock.due = true) :
    Calls Try.prog 16 #[.pointer (some ⟨b, 0, none⟩)] w fun e w' => ∃ v, e = .returned v ∧ PkRow w' w.heap.size v (s.packs s.l.length) ∧ TkAt w' base b (s.tock.tell s.l.length) ∧ KQ base w w' := by
  have hl : 0 < s.l.length := by
    unfold Tk.due at hd
    rw [show s.tock.l = s.l from rfl] at hd
    cases e : s.l with
    | nil => rw [e] at hd; cases hd
    | cons x r => simp
  obtain ⟨fv, PF, hh⟩ := h
  obtain ⟨fa, fc, efv, hc1, hc2⟩ := hh.shape
  subst efv
  rcases owns_shape hh.row with ⟨e0, e1⟩ | ⟨g, gc, eg, _⟩
  · rw [hh.len] at e1; omega
  simp only [Value.slice.injEq] at eg
  obtain ⟨rfl, -, -⟩ := eg
  have HWR := hid (show IntKind.u64.wrap ((s.clock : Int) + 1) = (s.clock : Int) + 1 by rw [IntKind.wrap_u64]; omega)
  obtain ⟨w1, hw1⟩ : ∃ w1, w1 = w.setCell ⟨b, 6, none⟩ (.int .u64 ((s.clock : Int) + 1)) := ⟨_, rfl⟩
  have hk1 : Keeps (fun k => k = b) w w1 := by rw [hw1]; exact kset _ _ _ _
  have H1 := hid (show TkV w1 base b s.tock (.slice (some ⟨g, 0, none⟩) s.l.length fc) PF from hh.head' hk1 (by rw [hw1, heap_setCell_same _ _ _ _ _ _ hh.head]; simp [Tk.tock]) hh.list (Tk.ok_tock hh.ok hc))
  have HK1 := hid (show KQ base w w1 from hh.ktS hk1 (fun k _ e => .inl e) hb)
  have HW1 := hid hw1
  obtain ⟨c0, c1, c2, c3, c4, c5, c6, hf⟩ := hh.cells
  have f6 := hf 6
  have y5 := H1.out.cells.2.2.2.2.2.1
  have y6 : w1.cell? ⟨b, 6, none⟩ = some (.int .u64 ((s.clock : Int) + 1)) := H1.out.cells.2.2.2.2.2.2.1
  obtain ⟨x, r, ex⟩ : ∃ x r, s.l = x :: r := by
    cases e : s.l with
    | nil => rw [e] at hl; cases hl
    | cons x r => exact ⟨x, r, rfl⟩
  have hxt : x.told ≤ s.clock := (hh.ok.2.2.2.2.2 x (by have : x ∈ s.l := by rw [ex]; simp
                                                        exact List.mem_of_mem_drop this)).1
  have hsub : x.told + 2 ≤ s.clock + 1 := by
    have e := hd
    unfold Tk.due at e
    rw [show s.tock.l = x :: r from ex] at e
    simpa [Tk.tock] using e
  obtain ⟨y, hy⟩ : ∃ y, PF[0]? = some y := by
    cases PF with
    | nil => rw [hh.len.symm] at hl; cases hl
    | cons y r => exact ⟨y, rfl⟩
  have hyx : y.1 = x := by
    have e := hh.list
    rw [ex] at e
    cases PF with
    | nil => cases hy
    | cons z r =>
      simp only [List.getElem?_cons_zero, Option.some.injEq] at hy
      subst hy
      simp only [List.map_cons, List.cons.injEq] at e
      exact e.1.symm
  have y1 : w1.cell? ⟨g, 1, none⟩ = some (.int .u64 (x.told : Int)) := by
    have := (H1.out.tcell hy).2
    rw [hyx] at this
    simpa using this
  have HSB := hid (show IntKind.u64.wrap ((s.clock : Int) + 1 - (x.told : Int)) = (s.clock : Int) + 1 - (x.told : Int) by rw [IntKind.wrap_u64]; omega)
  have e1 : ((s.l.length : Int) == 0) = false := by rw [beq_eq_false_iff_ne]; omega
  have e2 : ¬ (s.clock : Int) + 1 - (x.told : Int) < 2 := by omega
  have e3 : (0 : Int) < (s.l.length : Int) := by omega
  have HBS := hid hb
  have hw := HSB.out
  have HLL := hid s.l_len
  have HOK := hid (Tk.ok_tock hh.ok hc)
  clear hf hh hk1 hw1 c0 c1 c2 c3 c4 c5
  clear hb hd hsub ex hyx hy hxt hc1 hc2
  go_enter Try.func16, Try.ntmps16
  go_wp2_with fail
  try rw [HWR.out]
  rw [← HW1.out]
  go_quiet (fail)
  obtain ⟨w2, hw2⟩ : ∃ w2, w2 = w1.drewN nq := ⟨_, rfl⟩
  rw [← hw2]
  have HB2 := hid (show Below w1.heap.size w1 w2 by rw [hw2]; exact below_behind (Below.refl _ _) _)
  have H2 := hid (H1.out.below HB2.out)
  have HK2 := hid (HK1.out.trans (KQ.of_below HB2.out (Nat.le_trans HBS.out HK1.out.size)))
  have c25 := H2.out.cells.2.2.2.2.2.1
  clear hw2 y5 y6 y1
  obtain ⟨n, hn⟩ : ∃ n, n = s.l.length := ⟨_, rfl⟩
  rw [← hn] at H2 c25 ⊢
  have HN := hid hn
  have hnb : n ≤ 1000000 := by
    rw [HN.out]
    have := HLL.out
    have h4 := HOK.out.2.1
    have h5 : s.tock.all.length = s.all.length := rfl
    omega
  clear hn hl e3
  go_wp2_with fail
  clear e1 e2 hw
  go_loopw [3, 40] (fun v i wr => ∃ (j : Nat) (ra : Option Addr) (rc : Nat), j ≤ n ∧ v = .slice ra j rc ∧ i = .int .i64 j ∧ (∃ PF', TkV wr base b (s.tock.tell j) (.slice (some ⟨g, 0, none⟩) n fc) PF') ∧ PkRow wr w.heap.size (.slice ra j rc) (s.packs j) ∧ KQ base w wr) (fun _ i _ => n - (intOf i).toNat)
  case atStart => exact ⟨0, none, 0, Nat.zero_le _, rfl, rfl, ⟨PF, by rw [Tk.tell_zero _ HOK.out.1]; exact H2.out⟩, PkRow.nil _ _, HK2.out⟩
  case round =>
    obtain ⟨j, ra, rc, hj, rfl, rfl, hA, hP, hK⟩ := hrel
    have HA := hid hA
    have HP := hid hP
    have HK := hid hK
    clear hA hP hK
    by_cases hlt : j < n
    · obtain ⟨PFr, hr⟩ := HA.out
      have HR := hid hr
      have HDN := hid (show s.tock.done + j < s.tock.all.length by have := HLL.out; have := HN.out; show s.done + j < s.all.length; omega)
      have d5 : wr.drew.cell? ⟨b, 5, none⟩ = some (.slice (some ⟨g, 0, none⟩) n fc) := hr.cells.2.2.2.2.2.1
      have d6 : wr.drew.cell? ⟨b, 6, none⟩ = some (.int .u64 ((s.clock : Int) + 1)) := hr.cells.2.2.2.2.2.2.1
      have hen : n = PFr.length := by
        obtain ⟨_, _, ee, _⟩ := owns_slice hr.row
        simp only [Value.slice.injEq] at ee
        exact ee.2.1
      have hrw : wr.ownsRow base.n 76 2 (.slice (some ⟨g, 0, none⟩) n fc) n (PFr.flatMap tcells) := by
        have e := hr.row
        rwa [← hen] at e
      have hfz : wr.frozen? ⟨g, j * 2 + 1, none⟩ = false := owns_frozen hrw _
      obtain ⟨y, hy⟩ : ∃ y, PFr[j]? = some y := ⟨_, List.getElem?_eq_getElem (by omega)⟩
      have hcz : wr.cell? ⟨g, j * 2 + 1, none⟩ = some (.int .u64 (y.1.told : Int)) := (hr.tcell hy).2
      have hgb : ¬ b = g := fun e => hr.apart g rfl e.symm
      have hbl : b < wr.heap.size := hr.lt
      clear hen hrw hy
      have hj0 : (0 : Int) ≤ (j : Int) := by omega
      have hjn : (j : Int) < (n : Int) := by omega
      clear hr
      go_wp2_with fail
      go_region_held3 (fun w' => w'.cell? ⟨b, 5, none⟩ = some (.slice (some ⟨g, 0, none⟩) n fc) ∧ w'.cell? ⟨b, 6, none⟩ = some (.int .u64 ((s.clock : Int) + 1))) (first | (refine ⟨?_, ?_⟩ <;> with_reducible assumption) | (refine ⟨?_, ?_⟩ <;> first | exact ((kset wr g (j * 2 + 1) _).cell (p := ⟨b, 5, none⟩) hbl hgb).trans d5 | exact ((kset wr g (j * 2 + 1) _).cell (p := ⟨b, 6, none⟩) hbl hgb).trans d6) | fail) (fail)
      obtain ⟨w4, hw4⟩ : ∃ w4, w4 = wr.setCell ⟨g, j * 2 + 1, none⟩ (.int .u64 ((s.clock : Int) + 1)) := ⟨_, rfl⟩
      have e4 : w4.drew = (wr.setCell ⟨g, j * 2 + 1, none⟩ (.int .u64 ((s.clock : Int) + 1))).drew := by rw [hw4]
      rw [← e4]
      have H4 := told_v HR.out HOK.out HDN.out
      rw [show ((s.tock.clock : Int)) = (s.clock : Int) + 1 from rfl, ← hw4] at H4
      obtain ⟨PF4, h4⟩ := H4
      obtain ⟨w5, hw5⟩ : ∃ w5, w5 = w4.drew := ⟨_, rfl⟩
      rw [← hw5]
      have H5 := hid (show TkV w5 base b (s.tock.tell (j + 1)) (.slice (some ⟨g, 0, none⟩) n fc) PF4 by rw [hw5]; exact h4.below (below_dr (Below.refl _ _)))
      have HK5 := hid (show KQ base w w5 by
        rw [hw5, hw4]
        exact HK.out.trans ((HR.out.ktS (kset wr g (j * 2 + 1) _) (fun k _ e => .inr (by rw [e]; rfl)) (Nat.le_trans HBS.out HK.out.size)).drew))
      have HKP := hid (show PkRow w5 w.heap.size (.slice ra j rc) (s.packs j) by
        rw [hw5, hw4]
        exact HP.out.kt ((HR.out.ktS (kset wr g (j * 2 + 1) _) (fun k _ e => .inr (by rw [e]; rfl)) (Nat.le_trans HBS.out HK.out.size)).drew).kt (by decide) (by decide))
      obtain ⟨z, hz⟩ : ∃ z, PF4[j]? = some z := ⟨_, List.getElem?_eq_getElem (by
        have := H5.out.len
        rw [Tk.l_len, Tk.tell_len _ _ (by have := HDN.out; omega)] at this
        have := HDN.out
        show j < PF4.length
        have e9 : (s.tock.tell (j + 1)).done = s.tock.done := rfl
        omega)⟩
      have x0 : w5.cell? ⟨g, j * 2, none⟩ = some z.2 := (H5.out.tcell hz).1
      have x5 : w5.cell? ⟨b, 5, none⟩ = some (.slice (some ⟨g, 0, none⟩) n fc) := H5.out.cells.2.2.2.2.2.1
      have HZO := hid (H5.out.own z (List.mem_of_getElem? hz))
      have HZ := hid hz
      obtain ⟨za, zc, ez⟩ := rd_sl HZO.out.rd
      have HEZ := hid ez
      rw [ez] at x0
      have X0 : w5.drew.cell? ⟨g, j * 2, none⟩ = some (.slice za z.1.t.length zc) := x0
      have X5 : w5.drew.cell? ⟨b, 5, none⟩ = some (.slice (some ⟨g, 0, none⟩) n fc) := x5
      have HSQ := hid (show IntKind.u32.wrap (IntKind.u32.wrap (((s.tock.tell (j + 1)).done : Int) + IntKind.u32.wrap (j : Int)) + 1) = (s.done : Int) + (j : Int) + 1 by
        have h1 : (s.tock.tell (j + 1)).done = s.done := rfl
        have h2 := HDN.out
        have h3 : s.tock.done = s.done := rfl
        have h4 := HOK.out.2.1
        rw [h1, IntKind.wrap_u32, IntKind.wrap_u32, IntKind.wrap_u32]
        omega)
      obtain ⟨PP, hpp⟩ := HKP.out
      have hpl : PP.length = j := by
        have e := hpp.list
        have := congrArg List.length e
        rw [Tk.packs_len, List.length_map] at this
        exact this.symm
      have HPP := hid hpp
      have HPL := hid hpl
      have HRW := hid (show w5.ownsRow w.heap.size 31 7 (.slice ra j rc) j (PP.flatMap pcells) by have e := hpp.row; rwa [hpl] at e)
      have hb5 : b < w5.heap.size := H5.out.lt
      have hg5 : g < w5.heap.size := (World.ownsRow.lt H5.out.row g rfl).2
      have HNB := hid (show w.heap.size ≤ w5.heap.size from HK5.out.size)
      have HHD := hid H5.out.head
      have HZT := hid (show z.1.t.length ≤ 140737488355328 by
        have h1 : z.1 ∈ (s.tock.tell (j + 1)).l := by rw [H5.out.list]; exact List.mem_map.2 ⟨z, List.mem_of_getElem? HZ.out, rfl⟩
        have h2 := (H5.out.ok.2.2.2.2.2 _ (List.mem_of_mem_drop h1)).2
        omega)
      have HRD := hid (show Rd w5 (.slice za z.1.t.length zc) z.1.t by rw [← HEZ.out]; exact HZO.out.rd)
      have HJL := hid (show j ≤ 1000000 by have h2 := HDN.out; have h4 := HOK.out.2.1; omega)
      obtain ⟨gc2, hgc⟩ := owns_ty H5.out.row g rfl
      have HGC := hid hgc
      clear hw4 hw5 e4 h4 hz ez d5 d6 hfz hcz hpp hpl hgc
      go_wp2_with fail
      go_region_held3 (fun w' => w'.cell? ⟨b, 5, none⟩ = some (.slice (some ⟨g, 0, none⟩) n fc) ∧ w'.cell? ⟨g, j * 2, none⟩ = some (.slice za z.1.t.length zc))
        (first | (refine ⟨?_, ?_⟩ <;> with_reducible assumption) | (refine ⟨?_, ?_⟩ <;> first | exact (((Below.refl w7.heap.size w7).alloc (Nat.le_refl _) _).cell (p := ⟨b, 5, none⟩) hb7).trans (by with_reducible assumption) | exact (((Below.refl w7.heap.size w7).alloc (Nat.le_refl _) _).cell (p := ⟨g, j * 2, none⟩) hg7).trans (by with_reducible assumption)) | fail)
        (first
          | (go_at_call 30; refine (answered_any base b (s.tock.tell (j + 1)) w5.drew ⟨_, _, H5.out.below (below_dr (Below.refl _ _))⟩).mono ?_; rintro e w6 ⟨rfl, rfl⟩; have X01 : w5.drew.drew.cell? ⟨g, j * 2, none⟩ = some (.slice za z.1.t.length zc) := X0; have X51 : w5.drew.drew.cell? ⟨b, 5, none⟩ = some (.slice (some ⟨g, 0, none⟩) n fc) := X5)
          | (go_at_call 28; rw [HSQ.out]; refine (packet_any base b (s.tock.tell (j + 1)) _ (.slice za z.1.t.length zc) z.1.t w5.drew.drew ⟨_, _, H5.out.below (below_dr (below_dr (Below.refl _ _)))⟩ HRD.out HZT.out).mono ?_; rintro e w7 ⟨xa, xc, rfl, ho7, hb7'⟩
             have HO7 := hid (show Own w7 w5.heap.size (.slice xa z.1.t.length xc) z.1.t from ho7)
             have HB7 := hid (show Below w5.heap.size w5 w7 from ⟨hb7'.os, hb7'.tape, hb7'.output, hb7'.size, hb7'.block⟩)
             have X07 := (HB7.out.cell (p := ⟨g, j * 2, none⟩) hg5).trans X0
             have X57 := (HB7.out.cell (p := ⟨b, 5, none⟩) hb5).trans X5
             have hb7 : b < w7.heap.size := Nat.lt_of_lt_of_le hb5 HB7.out.size
             have hg7 : g < w7.heap.size := Nat.lt_of_lt_of_le hg5 HB7.out.size
             have HAL := hid (show Below w7.heap.size w7 (w7.alloc (.cells #[.int .u8 (s.tock.tell (j + 1)).node, .int .u32 (s.tock.tell (j + 1)).epoch, .int .u32 (s.tock.tell (j + 1)).life, .int .u32 ((s.done : Int) + (j : Int) + 1), .int .u32 ((s.tock.tell (j + 1)).heard : Int), .bool false, .slice xa z.1.t.length xc] 31)) from (Below.refl _ _).alloc (Nat.le_refl _) _)
             have HSR := hid (SrcC.lit w7 #[.int .u8 (s.tock.tell (j + 1)).node, .int .u32 (s.tock.tell (j + 1)).epoch, .int .u32 (s.tock.tell (j + 1)).life, .int .u32 ((s.done : Int) + (j : Int) + 1), .int .u32 ((s.tock.tell (j + 1)).heard : Int), .bool false, .slice xa z.1.t.length xc] 31 1 _ rfl)
             have HRW7 := hid (owns_below (owns_below HRW.out HB7.out) HAL.out)
             clear ho7 hb7')
          | (refine appsst (by rfl) 41 31 (.tmp 54) (.tmp 71) rfl w.heap.size 7 48 _ Try.underlying41 infoPk rfl (by decide) (.slice ra j rc) (.slice (some ⟨w7.heap.size, 0, none⟩) 1 1) j 1 (j + 1) _ _ rfl rfl HRW7.out HSR.out rfl (by simp [Value.oneCell']) rfl (by have := HJL.out; omega) (by have := HJL.out; omega) (by have := HNB.out; have := HB7.out.size; have := HAL.out.size; omega) ?_
             intro ad cp w8 hr8 hg8
             have HR8 := hid hr8
             have HK8 := hid (show KT [31] w.heap.size (w7.alloc (.cells #[.int .u8 (s.tock.tell (j + 1)).node, .int .u32 (s.tock.tell (j + 1)).epoch, .int .u32 (s.tock.tell (j + 1)).life, .int .u32 ((s.done : Int) + (j : Int) + 1), .int .u32 ((s.tock.tell (j + 1)).heard : Int), .bool false, .slice xa z.1.t.length xc] 31)) w8 from (by
               refine KT.of_keeps (Keeps.of_grown hg8) (fun k _ e => ?_) (by have := HNB.out; have := HB7.out.size; have := HAL.out.size; omega)
               obtain ⟨cur, hc⟩ := owns_ty HRW7.out k e
               exact ⟨(World.ownsRow.lt HRW7.out k e).1, _, _, _, hc, by simp⟩))
             have HB5 := hid (show Below w5.heap.size w5 (w7.alloc (.cells #[.int .u8 (s.tock.tell (j + 1)).node, .int .u32 (s.tock.tell (j + 1)).epoch, .int .u32 (s.tock.tell (j + 1)).life, .int .u32 ((s.done : Int) + (j : Int) + 1), .int .u32 ((s.tock.tell (j + 1)).heard : Int), .bool false, .slice xa z.1.t.length xc] 31)) from HB7.out.trans (HAL.out.mono HB7.out.size))
             have X58 : w8.cell? ⟨b, 5, none⟩ = some (.slice (some ⟨g, 0, none⟩) n fc) := (cell_of_row _ _ _ _ _ _ (HK8.out.block ((HB5.out.block b hb5).trans HHD.out) (by decide))).trans rfl
             have X08 : w8.cell? ⟨g, j * 2, none⟩ = some (.slice za z.1.t.length zc) := (World.cell?_of_block (w := w5) (a := ⟨g, j * 2, none⟩) ((HK8.out.block ((HB5.out.block g hg5).trans HGC.out) (by decide)).trans HGC.out.symm)).trans X0
             clear hr8 hg8)
          | fail)
      have HZN := hid (show s.nth j = s.pk (s.done + j + 1) z.1.t by
        have e := Tk.tell_t s.tock (j + 1) (by have := HDN.out; omega)
        rw [H5.out.list] at e
        have e2 := congrArg (fun l => l[j]?) e
        simp only [List.map_map, List.getElem?_map, HZ.out, Option.map_some, Function.comp] at e2
        unfold Tk.nth
        congr 1
        rw [List.getD_eq_getElem?_getD]
        have e3 : s.tock.l = s.l := rfl
        rw [e3] at e2
        cases h : s.l[j]? with
        | none => rw [h] at e2; cases e2
        | some q => rw [h] at e2; simp only [Option.map_some, Option.some.injEq] at e2; rw [Option.getD_some]; exact e2.symm)
      go_wp2_with fail
      go_roundw
      case rel =>
        refine ⟨j + 1, ad, cp, hlt, rfl, by go_num, ⟨PF4, ?_⟩, ?_, ?_⟩
        · exact (H5.out.below HB5.out).kt HK8.out (by decide) (by decide) (by decide)
        · rw [Tk.packs_succ]
          have hr := HR8.out
          have e9 : PP.length + 1 = j + 1 := by rw [HPL.out]
          rw [← e9] at hr ⊢
          refine PkV.push (k := s.nth j) (va := xa) (vc := xc) HPP.out (w' := w8) ?_ (fun x hx => ?_) ?_
          · rw [HZN.out]
            exact hr
          · exact (((HPP.out.own x hx).below HB5.out).kt HK8.out (by decide))
          · rw [HZN.out]
            exact (((HO7.out.below HAL.out).kt HK8.out (by decide)).base (fun k hk => by
              have := (HO7.out.lt k hk).1
              have := HNB.out
              omega))
        · exact (HK5.out.trans (KQ.of_below HB5.out (Nat.le_trans HBS.out HNB.out))).fresh HK8.out (Nat.le_refl _) HBS.out (by have := HNB.out; have := HB5.out.size; omega)
      case measure => simp [intOf]; omega
    · obtain rfl : j = n := by omega
      go_wp2
      go_ret
      obtain ⟨PFr, hr⟩ := HA.out
      rw [← HN.out]
      exact ⟨_, rfl, HP.out, ⟨_, _, hr⟩, HK.out⟩

end Go.Proofs.Ytjpojlkdogaalaa
