/-
  submit.
-/
import Derived.Test.YtahiaifdfgkemaaJbJ
import Derived.Deep.RegionHeld3
import Derived.Test.YtahiaifdfgkemaaUntil
namespace Go.Proofs.Ytahiaifdfgkemaa
open Go.RowKit
set_option linter.unusedVariables false
set_option linter.unusedSimpArgs false

def newJb (z : Nat) (q : Note.Q) : Jb := (z, q.t, q.kk, q.w, 0, 0)
def Tb.submit (t : Tb) (q : Note.Q) : (Nat × Int) × Tb :=
  if 3 < q.t ∨ q.kk < 1 ∨ q.w < 1 ∨ 10000 < q.w then ((0, 1), t) else if (t.n : Int) < q.kk then ((0, 9), t) else if 64 ≤ t.act.length then ((0, 8), t)
  else ((t.last + 1, 0), { t with last := t.last + 1, act := t.act ++ [newJb (t.last + 1) q] })
abbrev qcells (q : Note.Q) : Array Value := #[.int .u8 (q.cl : Int), .int .u32 (q.s : Int), .int .u8 (q.k : Int), .int .u8 (q.t : Int), .int .i64 q.kk, .int .i64 q.w, .int .u32 (q.j : Int)]

set_option maxRecDepth 100000 in
set_option maxHeartbeats 4000000 in
theorem submit_any (w : World) (lo b : Nat) (va vo : Value) (t : Tb) (q : Note.Q) (h : TbAt w lo b va vo t) (hl : t.last < 100000) (hlo : lo ≤ w.heap.size) :
    Calls Try.prog 35 #[.pointer (some ⟨b, 0, none⟩), .agg #[.int .u8 (q.cl : Int), .int .u32 (q.s : Int), .int .u8 (q.k : Int), .int .u8 (q.t : Int), .int .i64 q.kk, .int .i64 q.w, .int .u32 (q.j : Int)]] w fun e w' => e = .returned (.tuple #[.int .u32 ((t.submit q).1.1 : Int), .int .i64 (t.submit q).1.2]) ∧ ∃ va' vo', Stp w lo b va vo w' va' vo' (t.submit q).2 := by
  obtain ⟨am, ca, eva, hca1, hca2⟩ := owns_slice h.oa
  subst eva
  obtain ⟨w1, hw1⟩ : ∃ w1, w1 = w.alloc (.cells #[.int .u8 (q.cl : Int), .int .u32 (q.s : Int), .int .u8 (q.k : Int), .int .u8 (q.t : Int), .int .i64 q.kk, .int .i64 q.w, .int .u32 (q.j : Int)] 33) := ⟨_, rfl⟩
  have hb1 : Below w.heap.size w w1 := by rw [hw1]; exact (Below.refl _ _).alloc (Nat.le_refl _) _
  have hx1 : w1.heap[w.heap.size]? = some (.cells #[.int .u8 (q.cl : Int), .int .u32 (q.s : Int), .int .u8 (q.k : Int), .int .u8 (q.t : Int), .int .i64 q.kk, .int .i64 q.w, .int .u32 (q.j : Int)] 33 (0, 0)) := by rw [hw1]; exact heap_alloc_new w _
  have H1 := hid (h.below hb1)
  have H0 := hid h
  have HB1 := hid hb1
  have HX1 := hid hx1
  have HBA := hid (show Below w.heap.size w (w.alloc (.cells #[.int .u8 (q.cl : Int), .int .u32 (q.s : Int), .int .u8 (q.k : Int), .int .u8 (q.t : Int), .int .i64 q.kk, .int .i64 q.w, .int .u32 (q.j : Int)] 33)) from (Below.refl _ _).alloc (Nat.le_refl _) _)
  have HBX := hid (show w.heap.size < w1.heap.size from (Array.getElem?_eq_some_iff.1 hx1).1)
  have HLT := hid hl
  have HLO := hid hlo
  have k3 : w1.cell? ⟨w.heap.size, 3, none⟩ = some (.int .u8 (q.t : Int)) := (cell_of_row _ _ _ _ _ _ hx1).trans rfl
  have k4 : w1.cell? ⟨w.heap.size, 4, none⟩ = some (.int .i64 q.kk) := (cell_of_row _ _ _ _ _ _ hx1).trans rfl
  have k5 : w1.cell? ⟨w.heap.size, 5, none⟩ = some (.int .i64 q.w) := (cell_of_row _ _ _ _ _ _ hx1).trans rfl
  have d4 : w1.drew.cell? ⟨w.heap.size, 4, none⟩ = some (.int .i64 q.kk) := (cell_of_row _ _ _ _ _ _ hx1).trans rfl
  have c0 : w1.drew.cell? ⟨b, 0, none⟩ = some (.int .i64 (t.n : Int)) := H1.out.c0
  have c2 : w1.cell? ⟨b, 2, none⟩ = some (.slice am t.act.length ca) := H1.out.c2
  have HNX := hid (fun W (hb : TbAt W lo b (.slice am t.act.length ca) vo t) => jnext_any W lo b _ vo t hb (by omega))
  have HW1 := hid hw1
  have hlb := h.lt
  rw [hw1] at k3 k4 k5 c0 c2 d4
  clear h hb1 hx1 hw1 hl hlo
  go_enter Try.func35, Try.ntmps35
  by_cases hc : 3 < q.t
  · have e0 : decide ((q.t : Int) > 3) = true := decide_eq_true (by omega)
    have HE := hid (show t.submit q = ((0, 1), t) by unfold Tb.submit; rw [if_pos (.inl hc)])
    go_wp2_with fail
    go_ret2
    exact ⟨by rw [HE.out]; rfl, _, _, by rw [HE.out]; first | exact Stp.of_below H0.out HBA.out | exact Stp.of_below H0.out HBA.out.drew⟩
  · have e0 : decide ((q.t : Int) > 3) = false := decide_eq_false (by omega)
    have HC0 := hid hc
    clear hc
    by_cases hc : q.kk < 1
    · have e1 : decide (q.kk < 1) = true := decide_eq_true (by omega)
      have HE := hid (show t.submit q = ((0, 1), t) by unfold Tb.submit; rw [if_pos (.inr (.inl hc))])
      go_wp2_with fail
      go_ret2
      exact ⟨by rw [HE.out]; rfl, _, _, by rw [HE.out]; first | exact Stp.of_below H0.out HBA.out | exact Stp.of_below H0.out HBA.out.drew⟩
    · have e1 : decide (q.kk < 1) = false := decide_eq_false (by omega)
      have HC1 := hid hc
      clear hc
      by_cases hc : q.w < 1
      · have e2 : decide (q.w < 1) = true := decide_eq_true (by omega)
        have HE := hid (show t.submit q = ((0, 1), t) by unfold Tb.submit; rw [if_pos (.inr (.inr (.inl hc)))])
        go_wp2_with fail
        go_ret2
        exact ⟨by rw [HE.out]; rfl, _, _, by rw [HE.out]; first | exact Stp.of_below H0.out HBA.out | exact Stp.of_below H0.out HBA.out.drew⟩
      · have e2 : decide (q.w < 1) = false := decide_eq_false (by omega)
        have HC2 := hid hc
        clear hc
        by_cases hc : 10000 < q.w
        · have e3 : decide (q.w > 10000) = true := decide_eq_true (by omega)
          have HE := hid (show t.submit q = ((0, 1), t) by unfold Tb.submit; rw [if_pos (.inr (.inr (.inr hc)))])
          go_wp2_with fail
          go_ret2
          exact ⟨by rw [HE.out]; rfl, _, _, by rw [HE.out]; first | exact Stp.of_below H0.out HBA.out | exact Stp.of_below H0.out HBA.out.drew⟩
        · have e3 : decide (q.w > 10000) = false := decide_eq_false (by omega)
          have HC3 := hid hc
          clear hc
          go_upto_region 3 with (fail)
          go_region_held3 (fun w' => w'.cell? ⟨b, 0, none⟩ = some (.int .i64 (t.n : Int)) ∧ w'.cell? ⟨w.heap.size, 4, none⟩ = some (.int .i64 q.kk))
            (first | (with_reducible refine ⟨?_, ?_⟩ <;> assumption) | fail)
            (first | fail)
          by_cases hn : (t.n : Int) < q.kk
          · have en : decide (q.kk > (t.n : Int)) = true := decide_eq_true hn
            have HE := hid (show t.submit q = ((0, 9), t) by unfold Tb.submit; rw [if_neg (by have h0 := HC0.out; have h1 := HC1.out; have h2 := HC2.out; have h3 := HC3.out; omega), if_pos hn])
            go_wp2_with fail
            go_ret2
            exact ⟨by rw [HE.out]; rfl, _, _, by rw [HE.out]; first | exact Stp.of_below H0.out HBA.out | exact Stp.of_below H0.out HBA.out.drew⟩
          · have en : decide (q.kk > (t.n : Int)) = false := decide_eq_false hn
            have HCN := hid hn
            clear hn
            by_cases ha : 64 ≤ t.act.length
            · have ea : decide ((t.act.length : Int) ≥ 64) = true := decide_eq_true (by omega)
              have ea' : decide ((64 : Int) ≤ (t.act.length : Int)) = true := decide_eq_true (by omega)
              have HE := hid (show t.submit q = ((0, 8), t) by unfold Tb.submit; rw [if_neg (by have h0 := HC0.out; have h1 := HC1.out; have h2 := HC2.out; have h3 := HC3.out; omega), if_neg HCN.out, if_pos ha])
              go_wp2_with fail
              go_ret2
              exact ⟨by rw [HE.out]; rfl, _, _, by rw [HE.out]; first | exact Stp.of_below H0.out HBA.out | exact Stp.of_below H0.out HBA.out.drew⟩
            · have ea : decide ((t.act.length : Int) ≥ 64) = false := decide_eq_false (by omega)
              have ea' : decide ((64 : Int) ≤ (t.act.length : Int)) = false := decide_eq_false (by omega)
              have HE := hid (show t.submit q = ((t.last + 1, 0), { t with last := t.last + 1, act := t.act ++ [newJb (t.last + 1) q] }) by unfold Tb.submit; rw [if_neg (by have h0 := HC0.out; have h1 := HC1.out; have h2 := HC2.out; have h3 := HC3.out; omega), if_neg HCN.out, if_neg ha])
              have HA := hid (show t.act.length ≤ 64 by omega)
              obtain ⟨zz, hzz⟩ : ∃ z, z = t.last + 1 := ⟨_, rfl⟩
              have HZZ := hid hzz
              have hzi : (t.last : Int) + 1 = (zz : Int) := by omega
              rw [← hzz] at HE
              have hz : ((zz : Int) == 0) = false := by rw [beq_eq_false_iff_ne]; omega
              have hwr : IntKind.u32.wrap (zz : Int) = (zz : Int) := by rw [IntKind.wrap_u32]; have := HLT.out; omega
              clear hzz
              clear ha
              rw [← HW1.out] at k3 k4 k5 c0 c2 d4 ⊢
              have c1 : w1.drew.cell? ⟨b, 1, none⟩ = some (.int .u32 (t.last : Int)) := H1.out.c1
              have c2d : w1.drew.cell? ⟨b, 2, none⟩ = some (.slice am t.act.length ca) := H1.out.c2
              have z1 : w1.drew.frozen? ⟨b, 1, none⟩ = false := H1.out.fr 1
              obtain ⟨wd, hwd⟩ : ∃ z, z = w1.drew := ⟨_, rfl⟩
              have HBD := hid (show Below w1.heap.size w1 wd by rw [hwd]; exact (Below.refl _ _).drew)
              have HD := hid (H1.out.below HBD.out)
              rw [← hwd] at c1 c2d z1 c0 d4 ⊢
              clear hwd
              obtain ⟨m, hm⟩ : ∃ m, m = t.act.length := ⟨_, rfl⟩
              have HM := hid hm
              clear k3 k4 k5 c0 c2
              go_wp2_with fail
              refine (HNX.out wd HD.out).mono ?_
              rintro e w3 ⟨rfl, rfl⟩
              have h2 := HD.out.putLast zz
              have HS2 := hid (show Stp wd lo b (.slice am t.act.length ca) vo (wd.setCell ⟨b, 1, none⟩ (.int .u32 (zz : Int))) (.slice am t.act.length ca) vo { t with last := zz } from ⟨h2, (kset1 wd b 1 _).mono (fun k _ e => .inl e), fun k e => .inl e, fun k e => .inl e⟩)
              obtain ⟨w2, hw2⟩ : ∃ z, z = wd.setCell ⟨b, 1, none⟩ (.int .u32 (zz : Int)) := ⟨_, rfl⟩
              clear h2 hca1 hca2
              go_upto_region 8 with (fail)
              rw [← hw2] at HS2 ⊢
              have HNB := hid (show w.heap.size ≠ b by omega)
              have HXB := hid (show w2.heap[w.heap.size]? = some (.cells #[.int .u8 (q.cl : Int), .int .u32 (q.s : Int), .int .u8 (q.k : Int), .int .u8 (q.t : Int), .int .i64 q.kk, .int .i64 q.w, .int .u32 (q.j : Int)] 33 (0, 0)) from (HS2.out.k.block w.heap.size (by have := HBD.out.size; have := HBX.out; omega) (fun e => by
                have h1 := H0.out.tk_lt e
                omega)).trans ((HBD.out.block _ HBX.out).trans HX1.out))
              have HXV := hid (show ¬ ((Value.slice am t.act.length ca).ownBlock = some w.heap.size) from fun e => by have := (World.ownsRow.lt H0.out.oa _ e).2; omega)
              clear hw2 c1 c2d z1
              clear hwr hz hzi
              have HUN := hid (fun (L : Array Bool) (W : World) (hk : Keeps (fun k => (.slice am t.act.length ca : Value).ownBlock = some k) w2 W) => show UntilAll [(20, (fun w' => w'.cell? ⟨b, 2, none⟩ = some (.slice am t.act.length ca) ∧ w'.cell? ⟨b, 1, none⟩ = some (.int .u32 (zz : Int)) ∧ w'.cell? ⟨w.heap.size, 3, none⟩ = some (.int .u8 (q.t : Int)) ∧ w'.cell? ⟨w.heap.size, 4, none⟩ = some (.int .i64 q.kk) ∧ w'.cell? ⟨w.heap.size, 5, none⟩ = some (.int .i64 q.w)))] L W from fun c hc _ => by
                rw [List.mem_singleton] at hc
                subst hc
                have hbb := (hk.block w.heap.size (Array.getElem?_eq_some_iff.1 HXB.out).1 HXV.out).trans HXB.out
                exact ⟨(hk.cell (p := ⟨b, 2, none⟩) HS2.out.tb.lt (fun e => HS2.out.tb.ne_a b e rfl)).trans HS2.out.tb.c2, (hk.cell (p := ⟨b, 1, none⟩) HS2.out.tb.lt (fun e => HS2.out.tb.ne_a b e rfl)).trans HS2.out.tb.c1, (cell_of_row _ _ _ _ _ _ hbb).trans rfl, (cell_of_row _ _ _ _ _ _ hbb).trans rfl, (cell_of_row _ _ _ _ _ _ hbb).trans rfl⟩)
              have HK0 := hid (show Keeps (fun k => (.slice am t.act.length ca : Value).ownBlock = some k) w2 w2.drew from (Keeps.refl _ _).drew)
              refine Orders.begins (C := [(20, (fun w' => w'.cell? ⟨b, 2, none⟩ = some (.slice am t.act.length ca) ∧ w'.cell? ⟨b, 1, none⟩ = some (.int .u32 (zz : Int)) ∧ w'.cell? ⟨w.heap.size, 3, none⟩ = some (.int .u8 (q.t : Int)) ∧ w'.cell? ⟨w.heap.size, 4, none⟩ = some (.int .i64 q.kk) ∧ w'.cell? ⟨w.heap.size, 5, none⟩ = some (.int .i64 q.w)))]) (by kernel_rfl) ?_
              refine Orders.take (fun _ => True) [] (i := 0) (v := ?_) rfl (by kernel_rfl) (by kernel_rfl) (by kernel_rfl) (fun _ _ _ h => h) (by kernel_rfl) (fun _ _ _ _ => trivial) (by kernel_rfl) (by kernel_rfl) (Or.inl ⟨by rfl, ?_⟩) (HUN.out _ _ HK0.out) (fun HU => ?_)
              rotate_left
              · intro u hSw
                try dsimp only at hSw
                skip
                go_simp
                try (with_reducible rfl)
              clear HU
              try simp only [Act.put, List.getElem_toArray, List.getElem_cons_succ, List.getElem_cons_zero, List.setIfInBounds_toArray, List.set_cons_zero, List.set_cons_succ]
              refine Orders.take (fun _ => True) [] (i := 1) (v := ?_) rfl (by kernel_rfl) (by kernel_rfl) (by kernel_rfl) (fun _ _ _ h => h) (by kernel_rfl) (fun _ _ _ _ => trivial) (by kernel_rfl) (by kernel_rfl) (Or.inl ⟨by rfl, ?_⟩) (HUN.out _ _ HK0.out) (fun HU => ?_)
              rotate_left
              · intro u hSw
                try dsimp only at hSw
                skip
                go_simp
                try (with_reducible rfl)
              clear HU
              try simp only [Act.put, List.getElem_toArray, List.getElem_cons_succ, List.getElem_cons_zero, List.setIfInBounds_toArray, List.set_cons_zero, List.set_cons_succ]
              refine Orders.take (fun _ => True) [] (i := 2) (v := ?_) rfl (by kernel_rfl) (by kernel_rfl) (by kernel_rfl) (fun _ _ _ h => h) (by kernel_rfl) (fun _ _ _ _ => trivial) (by kernel_rfl) (by kernel_rfl) (Or.inl ⟨by rfl, ?_⟩) (HUN.out _ _ HK0.out) (fun HU => ?_)
              rotate_left
              · intro u hSw
                try dsimp only at hSw
                skip
                go_simp
                try (with_reducible rfl)
              clear HU
              try simp only [Act.put, List.getElem_toArray, List.getElem_cons_succ, List.getElem_cons_zero, List.setIfInBounds_toArray, List.set_cons_zero, List.set_cons_succ]
              refine Orders.take (fun _ => True) [] (i := 3) (v := ?_) rfl (by kernel_rfl) (by kernel_rfl) (by kernel_rfl) (fun _ _ _ h => h) (by kernel_rfl) (fun _ _ _ _ => trivial) (by kernel_rfl) (by kernel_rfl) (Or.inl ⟨by rfl, ?_⟩) (HUN.out _ _ HK0.out) (fun HU => ?_)
              rotate_left
              · intro u hSw
                try dsimp only at hSw
                skip
                go_simp
                try (with_reducible rfl)
              clear HU
              try simp only [Act.put, List.getElem_toArray, List.getElem_cons_succ, List.getElem_cons_zero, List.setIfInBounds_toArray, List.set_cons_zero, List.set_cons_succ]
              refine Orders.take (fun w' => w'.cell? ⟨b, 2, none⟩ = some (.slice am t.act.length ca) ∧ w'.cell? ⟨b, 1, none⟩ = some (.int .u32 (zz : Int)) ∧ w'.cell? ⟨w.heap.size, 3, none⟩ = some (.int .u8 (q.t : Int)) ∧ w'.cell? ⟨w.heap.size, 4, none⟩ = some (.int .i64 q.kk) ∧ w'.cell? ⟨w.heap.size, 5, none⟩ = some (.int .i64 q.w)) [20] (i := 4) (v := ?_) rfl (by kernel_rfl) (by kernel_rfl) (by kernel_rfl) (fun _ _ _ h => h) (by kernel_rfl) (fun L u hd h => h (20, (fun w' => w'.cell? ⟨b, 2, none⟩ = some (.slice am t.act.length ca) ∧ w'.cell? ⟨b, 1, none⟩ = some (.int .u32 (zz : Int)) ∧ w'.cell? ⟨w.heap.size, 3, none⟩ = some (.int .u8 (q.t : Int)) ∧ w'.cell? ⟨w.heap.size, 4, none⟩ = some (.int .i64 q.kk) ∧ w'.cell? ⟨w.heap.size, 5, none⟩ = some (.int .i64 q.w))) (by simp) (hd 20 (by simp))) (by kernel_rfl) (by kernel_rfl) (Or.inl ⟨by rfl, ?_⟩) (HUN.out _ _ HK0.out) (fun HU => ?_)
              rotate_left
              · intro u hSw
                try dsimp only at hSw
                obtain ⟨e2, e1, e3, e4, e5⟩ := hSw
                skip
                go_simp
                try (with_reducible rfl)
              clear HU
              try simp only [Act.put, List.getElem_toArray, List.getElem_cons_succ, List.getElem_cons_zero, List.setIfInBounds_toArray, List.set_cons_zero, List.set_cons_succ]
              refine Orders.take (fun _ => True) [] (i := 5) (v := ?_) rfl (by kernel_rfl) (by kernel_rfl) (by kernel_rfl) (fun _ _ _ h => h) (by kernel_rfl) (fun _ _ _ _ => trivial) (by kernel_rfl) (by kernel_rfl) (Or.inl ⟨by rfl, ?_⟩) (HUN.out _ _ HK0.out) (fun HU => ?_)
              rotate_left
              · intro u hSw
                try dsimp only at hSw
                skip
                go_simp
                try (with_reducible rfl)
              clear HU
              try simp only [Act.put, List.getElem_toArray, List.getElem_cons_succ, List.getElem_cons_zero, List.setIfInBounds_toArray, List.set_cons_zero, List.set_cons_succ]
              refine Orders.take (fun _ => True) [] (i := 6) (v := ?_) rfl (by kernel_rfl) (by kernel_rfl) (by kernel_rfl) (fun _ _ _ h => h) (by kernel_rfl) (fun _ _ _ _ => trivial) (by kernel_rfl) (by kernel_rfl) (Or.inl ⟨by rfl, ?_⟩) (HUN.out _ _ HK0.out) (fun HU => ?_)
              rotate_left
              · intro u hSw
                try dsimp only at hSw
                skip
                go_simp
                try (with_reducible rfl)
              clear HU
              try simp only [Act.put, List.getElem_toArray, List.getElem_cons_succ, List.getElem_cons_zero, List.setIfInBounds_toArray, List.set_cons_zero, List.set_cons_succ]
              refine Orders.take (fun _ => True) [] (i := 7) (v := ?_) rfl (by kernel_rfl) (by kernel_rfl) (by kernel_rfl) (fun _ _ _ h => h) (by kernel_rfl) (fun _ _ _ _ => trivial) (by kernel_rfl) (by kernel_rfl) (Or.inl ⟨by rfl, ?_⟩) (HUN.out _ _ HK0.out) (fun HU => ?_)
              rotate_left
              · intro u hSw
                try dsimp only at hSw
                skip
                go_simp
                try (with_reducible rfl)
              clear HU
              try simp only [Act.put, List.getElem_toArray, List.getElem_cons_succ, List.getElem_cons_zero, List.setIfInBounds_toArray, List.set_cons_zero, List.set_cons_succ]
              refine Orders.take (fun w' => w'.cell? ⟨b, 2, none⟩ = some (.slice am t.act.length ca) ∧ w'.cell? ⟨b, 1, none⟩ = some (.int .u32 (zz : Int)) ∧ w'.cell? ⟨w.heap.size, 3, none⟩ = some (.int .u8 (q.t : Int)) ∧ w'.cell? ⟨w.heap.size, 4, none⟩ = some (.int .i64 q.kk) ∧ w'.cell? ⟨w.heap.size, 5, none⟩ = some (.int .i64 q.w)) [20] (i := 8) (v := ?_) rfl (by kernel_rfl) (by kernel_rfl) (by kernel_rfl) (fun _ _ _ h => h) (by kernel_rfl) (fun L u hd h => h (20, (fun w' => w'.cell? ⟨b, 2, none⟩ = some (.slice am t.act.length ca) ∧ w'.cell? ⟨b, 1, none⟩ = some (.int .u32 (zz : Int)) ∧ w'.cell? ⟨w.heap.size, 3, none⟩ = some (.int .u8 (q.t : Int)) ∧ w'.cell? ⟨w.heap.size, 4, none⟩ = some (.int .i64 q.kk) ∧ w'.cell? ⟨w.heap.size, 5, none⟩ = some (.int .i64 q.w))) (by simp) (hd 20 (by simp))) (by kernel_rfl) (by kernel_rfl) (Or.inl ⟨by rfl, ?_⟩) (HUN.out _ _ HK0.out) (fun HU => ?_)
              rotate_left
              · intro u hSw
                try dsimp only at hSw
                obtain ⟨e2, e1, e3, e4, e5⟩ := hSw
                skip
                go_simp
                try (with_reducible rfl)
              clear HU
              try simp only [Act.put, List.getElem_toArray, List.getElem_cons_succ, List.getElem_cons_zero, List.setIfInBounds_toArray, List.set_cons_zero, List.set_cons_succ]
              refine Orders.take (fun _ => True) [] (i := 9) (v := ?_) rfl (by kernel_rfl) (by kernel_rfl) (by kernel_rfl) (fun _ _ _ h => h) (by kernel_rfl) (fun _ _ _ _ => trivial) (by kernel_rfl) (by kernel_rfl) (Or.inl ⟨by rfl, ?_⟩) (HUN.out _ _ HK0.out) (fun HU => ?_)
              rotate_left
              · intro u hSw
                try dsimp only at hSw
                skip
                go_simp
                try (with_reducible rfl)
              clear HU
              try simp only [Act.put, List.getElem_toArray, List.getElem_cons_succ, List.getElem_cons_zero, List.setIfInBounds_toArray, List.set_cons_zero, List.set_cons_succ]
              refine Orders.take (fun w' => w'.cell? ⟨b, 2, none⟩ = some (.slice am t.act.length ca) ∧ w'.cell? ⟨b, 1, none⟩ = some (.int .u32 (zz : Int)) ∧ w'.cell? ⟨w.heap.size, 3, none⟩ = some (.int .u8 (q.t : Int)) ∧ w'.cell? ⟨w.heap.size, 4, none⟩ = some (.int .i64 q.kk) ∧ w'.cell? ⟨w.heap.size, 5, none⟩ = some (.int .i64 q.w)) [20] (i := 10) (v := ?_) rfl (by kernel_rfl) (by kernel_rfl) (by kernel_rfl) (fun _ _ _ h => h) (by kernel_rfl) (fun L u hd h => h (20, (fun w' => w'.cell? ⟨b, 2, none⟩ = some (.slice am t.act.length ca) ∧ w'.cell? ⟨b, 1, none⟩ = some (.int .u32 (zz : Int)) ∧ w'.cell? ⟨w.heap.size, 3, none⟩ = some (.int .u8 (q.t : Int)) ∧ w'.cell? ⟨w.heap.size, 4, none⟩ = some (.int .i64 q.kk) ∧ w'.cell? ⟨w.heap.size, 5, none⟩ = some (.int .i64 q.w))) (by simp) (hd 20 (by simp))) (by kernel_rfl) (by kernel_rfl) (Or.inl ⟨by rfl, ?_⟩) (HUN.out _ _ HK0.out) (fun HU => ?_)
              rotate_left
              · intro u hSw
                try dsimp only at hSw
                obtain ⟨e2, e1, e3, e4, e5⟩ := hSw
                skip
                go_simp
                try (with_reducible rfl)
              clear HU
              try simp only [Act.put, List.getElem_toArray, List.getElem_cons_succ, List.getElem_cons_zero, List.setIfInBounds_toArray, List.set_cons_zero, List.set_cons_succ]
              refine Orders.take (fun _ => True) [] (i := 11) (v := ?_) rfl (by kernel_rfl) (by kernel_rfl) (by kernel_rfl) (fun _ _ _ h => h) (by kernel_rfl) (fun _ _ _ _ => trivial) (by kernel_rfl) (by kernel_rfl) (Or.inl ⟨by rfl, ?_⟩) (HUN.out _ _ HK0.out) (fun HU => ?_)
              rotate_left
              · intro u hSw
                try dsimp only at hSw
                skip
                go_simp
                try (with_reducible rfl)
              clear HU
              try simp only [Act.put, List.getElem_toArray, List.getElem_cons_succ, List.getElem_cons_zero, List.setIfInBounds_toArray, List.set_cons_zero, List.set_cons_succ]
              refine Orders.take (fun w' => w'.cell? ⟨b, 2, none⟩ = some (.slice am t.act.length ca) ∧ w'.cell? ⟨b, 1, none⟩ = some (.int .u32 (zz : Int)) ∧ w'.cell? ⟨w.heap.size, 3, none⟩ = some (.int .u8 (q.t : Int)) ∧ w'.cell? ⟨w.heap.size, 4, none⟩ = some (.int .i64 q.kk) ∧ w'.cell? ⟨w.heap.size, 5, none⟩ = some (.int .i64 q.w)) [20] (i := 12) (v := ?_) rfl (by kernel_rfl) (by kernel_rfl) (by kernel_rfl) (fun _ _ _ h => h) (by kernel_rfl) (fun L u hd h => h (20, (fun w' => w'.cell? ⟨b, 2, none⟩ = some (.slice am t.act.length ca) ∧ w'.cell? ⟨b, 1, none⟩ = some (.int .u32 (zz : Int)) ∧ w'.cell? ⟨w.heap.size, 3, none⟩ = some (.int .u8 (q.t : Int)) ∧ w'.cell? ⟨w.heap.size, 4, none⟩ = some (.int .i64 q.kk) ∧ w'.cell? ⟨w.heap.size, 5, none⟩ = some (.int .i64 q.w))) (by simp) (hd 20 (by simp))) (by kernel_rfl) (by kernel_rfl) (Or.inl ⟨by rfl, ?_⟩) (HUN.out _ _ HK0.out) (fun HU => ?_)
              rotate_left
              · intro u hSw
                try dsimp only at hSw
                obtain ⟨e2, e1, e3, e4, e5⟩ := hSw
                skip
                go_simp
                try (with_reducible rfl)
              clear HU
              try simp only [Act.put, List.getElem_toArray, List.getElem_cons_succ, List.getElem_cons_zero, List.setIfInBounds_toArray, List.set_cons_zero, List.set_cons_succ]
              refine Orders.take (fun _ => True) [] (i := 13) (v := ?_) rfl (by kernel_rfl) (by kernel_rfl) (by kernel_rfl) (fun _ _ _ h => h) (by kernel_rfl) (fun _ _ _ _ => trivial) (by kernel_rfl) (by kernel_rfl) (Or.inl ⟨by rfl, ?_⟩) (HUN.out _ _ HK0.out) (fun HU => ?_)
              rotate_left
              · intro u hSw
                try dsimp only at hSw
                skip
                go_simp
                try (with_reducible rfl)
              clear HU
              try simp only [Act.put, List.getElem_toArray, List.getElem_cons_succ, List.getElem_cons_zero, List.setIfInBounds_toArray, List.set_cons_zero, List.set_cons_succ]
              refine Orders.take (fun w' => w'.cell? ⟨b, 2, none⟩ = some (.slice am t.act.length ca) ∧ w'.cell? ⟨b, 1, none⟩ = some (.int .u32 (zz : Int)) ∧ w'.cell? ⟨w.heap.size, 3, none⟩ = some (.int .u8 (q.t : Int)) ∧ w'.cell? ⟨w.heap.size, 4, none⟩ = some (.int .i64 q.kk) ∧ w'.cell? ⟨w.heap.size, 5, none⟩ = some (.int .i64 q.w)) [20] (i := 14) (v := ?_) rfl (by kernel_rfl) (by kernel_rfl) (by kernel_rfl) (fun _ _ _ h => h) (by kernel_rfl) (fun L u hd h => h (20, (fun w' => w'.cell? ⟨b, 2, none⟩ = some (.slice am t.act.length ca) ∧ w'.cell? ⟨b, 1, none⟩ = some (.int .u32 (zz : Int)) ∧ w'.cell? ⟨w.heap.size, 3, none⟩ = some (.int .u8 (q.t : Int)) ∧ w'.cell? ⟨w.heap.size, 4, none⟩ = some (.int .i64 q.kk) ∧ w'.cell? ⟨w.heap.size, 5, none⟩ = some (.int .i64 q.w))) (by simp) (hd 20 (by simp))) (by kernel_rfl) (by kernel_rfl) (Or.inl ⟨by rfl, ?_⟩) (HUN.out _ _ HK0.out) (fun HU => ?_)
              rotate_left
              · intro u hSw
                try dsimp only at hSw
                obtain ⟨e2, e1, e3, e4, e5⟩ := hSw
                skip
                go_simp
                try (with_reducible rfl)
              clear HU
              try simp only [Act.put, List.getElem_toArray, List.getElem_cons_succ, List.getElem_cons_zero, List.setIfInBounds_toArray, List.set_cons_zero, List.set_cons_succ]
              refine Orders.take (fun _ => True) [] (i := 15) (v := ?_) rfl (by kernel_rfl) (by kernel_rfl) (by kernel_rfl) (fun _ _ _ h => h) (by kernel_rfl) (fun _ _ _ _ => trivial) (by kernel_rfl) (by kernel_rfl) (Or.inl ⟨by rfl, ?_⟩) (HUN.out _ _ HK0.out) (fun HU => ?_)
              rotate_left
              · intro u hSw
                try dsimp only at hSw
                skip
                go_simp
                try (with_reducible rfl)
              clear HU
              try simp only [Act.put, List.getElem_toArray, List.getElem_cons_succ, List.getElem_cons_zero, List.setIfInBounds_toArray, List.set_cons_zero, List.set_cons_succ]
              refine Orders.one (i := 16) (by kernel_rfl) rfl (fun K hK => ?_)
              try simp only [Act.put, List.getElem_toArray, List.getElem_cons_succ, List.getElem_cons_zero, List.setIfInBounds_toArray, List.set_cons_zero, List.set_cons_succ]
              go_simp
              have HK1 := hid (HK0.out.alloc (.cells #[.int .u32 (zz : Int), .int .u8 (q.t : Int), .int .i64 q.kk, .int .i64 q.w, .int .u8 0, .int .i64 0] 44))
              have HSR := hid (SrcC.lit w2.drew #[.int .u32 (zz : Int), .int .u8 (q.t : Int), .int .i64 q.kk, .int .i64 q.w, .int .u8 0, .int .i64 0] 44 1 (jcel (newJb zz q)) rfl)
              have HOW := hid (show (w2.drew.alloc (.cells #[.int .u32 (zz : Int), .int .u8 (q.t : Int), .int .i64 q.kk, .int .i64 q.w, .int .u8 0, .int .i64 0] 44)).ownsRow lo 44 6 (.slice am t.act.length ca) t.act.length (jcels t.act) from owns_below HS2.out.tb.oa ((Below.refl _ _).drew.alloc (Nat.le_refl _) _))
              refine hK.out _ _ (HUN.out _ _ HK1.out) (fun HU => ?_)
              clear hK K HU
              try simp only [Act.put, List.getElem_toArray, List.getElem_cons_succ, List.getElem_cons_zero, List.setIfInBounds_toArray, List.set_cons_zero, List.set_cons_succ]
              refine Orders.one (i := 17) (by kernel_rfl) rfl (fun K hK => ?_)
              try simp only [Act.put, List.getElem_toArray, List.getElem_cons_succ, List.getElem_cons_zero, List.setIfInBounds_toArray, List.set_cons_zero, List.set_cons_succ]
              rw [if_pos (by rfl)]
              refine op_apps2 41 44 (.tmp 56) (.tmp 68) rfl lo 6 40 _ Try.underlying41 infoJ rfl (by decide) (.slice am t.act.length ca) _ t.act.length 1 (t.act.length + 1) (jcels t.act) (jcel (newJb zz q)) rfl rfl HOW.out HSR.out rfl (jcel_one _) rfl (by have := HA.out; omega) (by have := HA.out; omega) (Nat.le_trans (Nat.le_trans HS2.out.tb.lob (Nat.le_of_lt HS2.out.tb.lt)) HK1.out.size) ?_
              intro ad cap w6 ho6 hg6 hp6
              have HK2 := hid (HK1.out.trans' (Keeps.of_grown hg6) (fun k _ e => e))
              have HO6 := hid ho6
              have HP6 := hid (fun q hq => (hp6 q hq).imp id fun h => Nat.le_trans HK1.out.size h)
              clear ho6 hg6 hp6
              refine hK.out _ _ (HUN.out _ _ HK2.out) (fun HU => ?_)
              clear hK K HU
              try simp only [Act.put, List.getElem_toArray, List.getElem_cons_succ, List.getElem_cons_zero, List.setIfInBounds_toArray, List.set_cons_zero, List.set_cons_succ]
              refine Orders.take (fun _ => True) [] (i := 18) (v := ?_) rfl (by kernel_rfl) (by kernel_rfl) (by kernel_rfl) (fun _ _ _ h => h) (by kernel_rfl) (fun _ _ _ _ => trivial) (by kernel_rfl) (by kernel_rfl) (Or.inl ⟨by rfl, ?_⟩) (HUN.out _ _ HK2.out) (fun HU => ?_)
              rotate_left
              · intro u hSw
                try dsimp only at hSw
                skip
                go_simp
                try (with_reducible rfl)
              clear HU
              try simp only [Act.put, List.getElem_toArray, List.getElem_cons_succ, List.getElem_cons_zero, List.setIfInBounds_toArray, List.set_cons_zero, List.set_cons_succ]
              refine Orders.take (fun _ => True) [] (i := 19) (v := ?_) rfl (by kernel_rfl) (by kernel_rfl) (by kernel_rfl) (fun _ _ _ h => h) (by kernel_rfl) (fun _ _ _ _ => trivial) (by kernel_rfl) (by kernel_rfl) (Or.inl ⟨by rfl, ?_⟩) (HUN.out _ _ HK2.out) (fun HU => ?_)
              rotate_left
              · intro u hSw
                try dsimp only at hSw
                skip
                go_simp
                try (with_reducible rfl)
              clear HU
              try simp only [Act.put, List.getElem_toArray, List.getElem_cons_succ, List.getElem_cons_zero, List.setIfInBounds_toArray, List.set_cons_zero, List.set_cons_succ]
              have e3 : w6.cell? ⟨b, 2, none⟩ = some (.slice am t.act.length ca) := (HK2.out.cell (p := ⟨b, 2, none⟩) HS2.out.tb.lt (fun e => HS2.out.tb.ne_a b e rfl)).trans HS2.out.tb.c2
              have z3 : w6.frozen? ⟨b, 2, none⟩ = false := (HK2.out.frozen (p := ⟨b, 2, none⟩) HS2.out.tb.lt (fun e => HS2.out.tb.ne_a b e rfl)).trans (HS2.out.tb.fr 2)
              have hst := HS2.out.tb.appAct (y := (newJb zz q)) HK2.out (va' := .slice ad (t.act.length + 1) cap) HO6.out HP6.out (by have := HA.out; show t.act.length < 1000; omega)
              have HS6 := hid hst
              clear hst
              refine Orders.one (i := 20) (by kernel_rfl) rfl (fun K hK => ?_)
              try simp only [Act.put, List.getElem_toArray, List.getElem_cons_succ, List.getElem_cons_zero, List.setIfInBounds_toArray, List.set_cons_zero, List.set_cons_succ]
              go_simp
              refine hK.out _ _ ?_ (fun HU => ?_)
              · intro c hc hl
                rw [List.mem_singleton] at hc
                subst hc
                exact absurd hl (fun h => Bool.noConfusion (h.symm.trans (by kernel_rfl : _ = true)))
              clear hK K HU
              try simp only [Act.put, List.getElem_toArray, List.getElem_cons_succ, List.getElem_cons_zero, List.setIfInBounds_toArray, List.set_cons_zero, List.set_cons_succ]
              refine Orders.ends (by kernel_rfl) ?_ _
              have c1' : (w6.setCell ⟨b, 2, none⟩ (.slice ad (t.act.length + 1) cap)).cell? ⟨b, 1, none⟩ = some (.int .u32 (zz : Int)) := HS6.out.tb.c1
              have HF5 := hid (Stp.trans (Stp.of_below H0.out (HB1.out.trans (HBD.out.mono HB1.out.size))) (Stp.trans HS2.out HS6.out))
              clear e3 z3
              go_wp2_with fail
              go_ret2
              exact ⟨by rw [HE.out]; rfl, _, _, by rw [HE.out]; exact HF5.out⟩

end Go.Proofs.Ytahiaifdfgkemaa
