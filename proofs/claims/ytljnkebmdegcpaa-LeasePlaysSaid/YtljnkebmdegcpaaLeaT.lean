/-
  Tick.
-/
import Derived.Test.YtljnkebmdegcpaaLeaH
import Derived.Deep.MidRow
namespace Go.Proofs.Ytljnkebmdegcpaa
open Go.RowKit
set_option linter.unusedVariables false
set_option linter.unusedSimpArgs false

abbrev ivN (k : Nat) : Value := .int .i64 (k : Int)
def gcel (p : Nat × Nat) : List Value := [.int .i64 (p.1 : Int), .int .u32 (p.2 : Int)]
def gcels (l : List (Nat × Nat)) : List Value := l.flatMap gcel
theorem gcels_snoc (l : List (Nat × Nat)) (x : Nat × Nat) : gcels (l ++ [x]) = gcels l ++ gcel x := by unfold gcels; rw [List.flatMap_append]; simp
theorem gcels_len (l : List (Nat × Nat)) : (gcels l).length = l.length * 2 := by
  induction l with
  | nil => rfl
  | cons x l ih => show (gcel x ++ gcels l).length = _; rw [List.length_append, ih, List.length_cons]; show 2 + _ = _; omega
theorem infoInt : (Try.prog.info? 3).map (fun i => (i.zero, i.size, i.bytes)) = some (some (.int .i64 0), 1, 8) := by kernel_rfl
theorem infoG : (Try.prog.info? 47).map (fun i => (i.zero, i.size, i.bytes)) = some (some (.agg #[.int .i64 0, .int .u32 0]), 2, 16) := by kernel_rfl

/-- The first k nodes have had their tick. -/
def tk (now : Nat) (l : List Nd) : Nat → List Nd
  | 0 => l
  | k + 1 => (tk now l k).set k (tick1 now (nd l k))
theorem tk_len (now : Nat) (l : List Nd) : ∀ k, (tk now l k).length = l.length
  | 0 => rfl
  | k + 1 => by show (List.set _ _ _).length = _; rw [List.length_set]; exact tk_len now l k
theorem tk_nd (now : Nat) (l : List Nd) : ∀ k j, k ≤ j → nd (tk now l k) j = nd l j
  | 0, _, _ => rfl
  | k + 1, j, h => by show nd (List.set _ _ _) j = _; rw [nd_set_ne (by omega)]; exact tk_nd now l k j (by omega)
theorem tk_lo (now : Nat) (l : List Nd) : ∀ k j, j < k → k ≤ l.length → nd (tk now l k) j = tick1 now (nd l j)
  | k + 1, j, h, hk => by
    show nd (List.set _ _ _) j = _
    by_cases e : k = j
    · subst e; exact nd_set (by rw [tk_len]; omega) _
    · rw [nd_set_ne e]; exact tk_lo now l k j (by omega) (by omega)
theorem nd_ext {l m : List Nd} (h : l.length = m.length) (hn : ∀ j, j < l.length → nd l j = nd m j) : l = m := by
  refine List.ext_getElem h fun j h1 h2 => ?_
  have := hn j h1
  unfold nd at this
  rwa [List.getD_eq_getElem?_getD, List.getD_eq_getElem?_getD, List.getElem?_eq_getElem h1, List.getElem?_eq_getElem h2] at this
theorem ticks_nd (now : Nat) (l : List Nd) (j : Nat) (h : j < l.length) : nd (ticks now l) j = tick1 now (nd l j) := by
  unfold ticks nd
  simp [List.getD_eq_getElem?_getD, List.getElem?_map, h]
theorem tk_all (now : Nat) (l : List Nd) : tk now l l.length = ticks now l :=
  nd_ext (by rw [tk_len]; unfold ticks; rw [List.length_map]) fun j hj => by rw [tk_len] at hj; rw [tk_lo now l _ j hj (Nat.le_refl _), ticks_nd now l j hj]

theorem owns_kg {w w' : World} {lo g s n : Nat} {e : TypeId} {v : Value} {xs : List Value} (h : w.ownsRow lo e s v n xs) (hk : Keeps (fun i => i = g) w w') (hg : g < lo) : w'.ownsRow lo e s v n xs :=
  owns_by h fun q hq => hk.block q (World.ownsRow.lt h q hq).2 (fun e => by have := (World.ownsRow.lt h q hq).1; omega)
theorem owns_apart {w : World} {b1 b2 s1 s2 n1 n2 : Nat} {e1 e2 : TypeId} {v1 v2 : Value} {xs ys : List Value} (h1 : w.ownsRow b1 e1 s1 v1 n1 xs) (h2 : w.ownsRow b2 e2 s2 v2 n2 ys) (he : e1 ≠ e2) (q : Nat) (hq : v1.ownBlock = some q) : v2.ownBlock ≠ some q := by
  intro h
  obtain ⟨c1, hc1⟩ := owns_ty h1 q hq
  obtain ⟨c2, hc2⟩ := owns_ty h2 q h
  rw [hc1] at hc2
  simp only [Option.some.injEq, Obj.cells.injEq] at hc2
  exact he hc2.2.1

structure TkAt (w wr : World) (b g : Nat) (vg va : Value) (l : List Nd) (G : List (Nat × Nat)) (A : List Nat) : Prop where
  bk : BkAt wr b g l
  hg : wr.ownsRow w.heap.size 47 2 vg G.length (gcels G)
  ha : wr.ownsRow w.heap.size 3 1 va A.length (A.map ivN)
  k : Keeps (fun i => i = g) w wr
  lt : b < w.heap.size ∧ g < w.heap.size
section
variable {w wr w2 wA : World} {b g : Nat} {vg va vg' va' : Value} {l l' : List Nd} {G : List (Nat × Nat)} {A : List Nat}
theorem TkAt.start (h : BkAt w b g l) : TkAt w w b g (.slice none 0 0) (.slice none 0 0) l [] [] :=
  ⟨h, World.ownsRow_nil _ _ _ _, World.ownsRow_nil _ _ _ _, Keeps.refl _ _, h.lt⟩
theorem TkAt.node (h : TkAt w wr b g vg va l G A) (hb : BkAt w2 b g l') (hk : Keeps (fun i => i = g) wr w2) : TkAt w w2 b g vg va l' G A :=
  ⟨hb, owns_kg h.hg hk h.lt.2, owns_kg h.ha hk h.lt.2, h.k.trans hk, h.lt⟩
theorem TkAt.alloc (h : TkAt w wr b g vg va l G A) (o : Obj) : TkAt w (wr.alloc o) b g vg va l G A :=
  h.node (h.bk.below ((Below.refl _ _).alloc (Nat.le_refl _) o)) ((Keeps.refl _ _).alloc o)
theorem grown_keep {row : Option Nat} (h : TkAt w wr b g vg va l G A) (hgr : wr.grownBy wA row) (hr : ∀ q, row = some q → w.heap.size ≤ q) : BkAt wA b g l ∧ Keeps (fun i => i = g) w wA := by
  have hk := Keeps.of_grown hgr
  refine ⟨h.bk.keeps hk (fun e => ?_) (fun e => ?_), h.k.trans' hk fun i hi e => ?_⟩
  · have := hr b e; have := h.lt.1; omega
  · have := hr g e; have := h.lt.2; omega
  · have := hr i e; omega
theorem TkAt.addG (h : TkAt w wr b g vg va l G A) (p : Nat × Nat) (hO : wA.ownsRow w.heap.size 47 2 vg' (G.length + 1) (gcels G ++ gcel p)) (hgr : wr.grownBy wA vg.ownBlock) : TkAt w wA b g vg' va l (G ++ [p]) A := by
  obtain ⟨h1, h2⟩ := grown_keep h hgr fun q hq => (World.ownsRow.lt h.hg q hq).1
  refine ⟨h1, by rw [List.length_append, gcels_snoc]; exact hO, owns_by h.ha fun q hq => (Keeps.of_grown hgr).block q (World.ownsRow.lt h.ha q hq).2 (owns_apart h.ha h.hg (by decide) q hq), h2, h.lt⟩
theorem TkAt.addA (h : TkAt w wr b g vg va l G A) (p : Nat) (hO : wA.ownsRow w.heap.size 3 1 va' (A.length + 1) (A.map ivN ++ [ivN p])) (hgr : wr.grownBy wA va.ownBlock) : TkAt w wA b g vg va' l G (A ++ [p]) := by
  obtain ⟨h1, h2⟩ := grown_keep h hgr fun q hq => (World.ownsRow.lt h.ha q hq).1
  refine ⟨h1, owns_by h.hg fun q hq => (Keeps.of_grown hgr).block q (World.ownsRow.lt h.hg q hq).2 (owns_apart h.hg h.ha (by decide) q hq), by rw [List.length_append, List.map_append]; exact hO, h2, h.lt⟩
end

set_option maxHeartbeats 1000000 in
theorem tick_nil (w : World) (now : Nat) : Calls Try.prog 13 #[.pointer none, .int .u32 (now : Int)] w fun e w' => e = .returned (.tuple #[.slice none 0 0, .slice none 0 0]) ∧ w = w' := by
  go_enter Try.func13, Try.ntmps13
  go_wp2
  go_ret2
  exact ⟨rfl, rfl⟩

set_option maxRecDepth 100000 in
set_option maxHeartbeats 8000000 in
theorem tick_any (w : World) (b g : Nat) (l : List Nd) (now : Nat) (h : BkAt w b g l) (hn : now ≤ 4294967295) :
    Calls Try.prog 13 #[.pointer (some ⟨b, 0, none⟩), .int .u32 (now : Int)] w fun e w' => ∃ vg va, e = .returned (.tuple #[vg, va]) ∧ TkAt w w' b g vg va (ticks now l) (grants now l l.length) (aways now l l.length) := by
  have c0 := h.sl
  have hl16 := h.len.2
  have HST := hid (TkAt.start h)
  have HLE := hid hl16
  have HALL := hid (tk_all now l)
  obtain ⟨n, hn'⟩ : ∃ n, n = l.length := ⟨_, rfl⟩
  rw [← hn'] at c0 hl16 ⊢
  have HN := hid hn'
  clear h hn'
  go_enter Try.func13, Try.ntmps13
  go_wp2_with fail
  go_loopw [6, 7, 17] (fun vg va i wr => ∃ k : Nat, k ≤ n ∧ i = .int .i64 k ∧ TkAt w wr b g vg va (tk now l k) (grants now l k) (aways now l k)) (fun _ _ i _ => n - (intOf i).toNat)
  case atStart => exact ⟨0, Nat.zero_le _, rfl, HST.out⟩
  case round =>
    obtain ⟨k, hk, rfl, hT⟩ := hrel
    have HT := hid hT
    obtain ⟨ag, cg, rfl, hcg1, hcg2⟩ := owns_slice hT.hg
    obtain ⟨aa, ca, rfl, hca1, hca2⟩ := owns_slice hT.ha
    have hgl := grants_len now l k
    have hal := aways_len now l k
    have hsw := hT.k.size
    by_cases hlt : k < n
    · have hki : (k : Int) < (n : Int) := by omega
      have HKL := hid (show k < (tk now l k).length by rw [tk_len, ← HN.out]; exact hlt)
      obtain ⟨d0, d1, d2, d3⟩ := hT.bk.cells HKL.out
      have hfr := hT.bk.fr (k * 4)
      have csl : wr.cell? ⟨b, 0, none⟩ = some (.slice (some ⟨g, 0, none⟩) n n) := by have := hT.bk.sl; rw [tk_len, ← HN.out] at this; exact this
      obtain ⟨o0, o1, o2, o3⟩ := hT.bk.ok _ (nd_mem HKL.out)
      obtain ⟨x, hx⟩ : ∃ x, x = nd l k := ⟨_, rfl⟩
      have hnd : nd (tk now l k) k = x := by rw [hx]; exact tk_nd now l k k (Nat.le_refl _)
      have HQ := hid (fun (hx : k < (tk now l k).length) => quiet_any wr b g _ k now hT.bk hx hn)
      have HEX := hid (fun (hx : k < (tk now l k).length) => ext_any wr b g _ k now hT.bk hx hn)
      have HP := hid (fun (v : Value) (y : Nd) h1 h2 => hT.bk.put HKL.out 0 v y (by omega) h1 h2)
      have HS1 := hid (show grants now l (k + 1) = if grant now (nd l k) then grants now l k ++ [(k, (tick1 now (nd l k)).2.2.2)] else grants now l k from rfl)
      have HS2 := hid (show aways now l (k + 1) = if gone now (nd l k) then aways now l k ++ [k] else aways now l k from rfl)
      have HS3 := hid (show tk now l (k + 1) = (tk now l k).set k (tick1 now (nd l k)) from rfl)
      rw [hnd] at d0 d1 d2 d3 o0 o1 o2 o3 HQ HEX HP
      rw [← hx] at HS1 HS2 HS3
      obtain ⟨x0, x1, x2, x3⟩ := x
      dsimp only at d0 d1 d2 d3 o0 o1 o2 o3
      have HND := hid hnd
      generalize grants now l k = G at *
      generalize aways now l k = A at *
      generalize tk now l k = L at *
      clear hT hx hnd
      by_cases h1 : x0 = 1
      · subst h1
        by_cases hq : x2 + 4 ≤ now
        · by_cases hl : x3 < now
          · have d0 : wr.cell? ⟨g, k * 4, none⟩ = some (.int .u8 1) := d0
            have t1 : tick1 now (1, x1, x2, x3) = (0, x1, x2, x3) := by simp [tick1, dbt, grant, gone, hq, hl]
            have t2 : grant now (1, x1, x2, x3) = false := by simp [tick1, dbt, grant, gone, hq, hl]
            have t3 : gone now (1, x1, x2, x3) = true := by simp [tick1, dbt, grant, gone, hq, hl]
            rw [t1, t2] at HS1
            rw [t3] at HS2
            rw [t1] at HS3
            clear t1 t2 t3
            have R1 := hid (HS1.out.trans (rfl : _ = G))
            have R2 := hid (HS2.out.trans (rfl : _ = A ++ [k]))
            have q1 : qui now (1, x1, x2, x3) = true := by simp [qui, hq]
            have hlI : x3 < now := hl
            have hlD : decide ((x3 : Int) < (now : Int)) = true := decide_eq_true (by omega)
            have p2 := HP.out (.int .u8 2) (2, x1, x2, x3) rfl ⟨Nat.le_refl _, o1, o2, o3⟩
            obtain ⟨e0, e1, e2, e3⟩ := p2.cells (k := k) (by rw [List.length_set]; exact HKL.out)
            rw [nd_set HKL.out] at e0 e1 e2 e3
            dsimp only at e0 e1 e2 e3
            have e0 : (wr.setCell ⟨g, k * 4, none⟩ (.int .u8 2)).cell? ⟨g, k * 4, none⟩ = some (.int .u8 2) := e0
            have e3 : (wr.setCell ⟨g, k * 4, none⟩ (.int .u8 2)).cell? ⟨g, k * 4 + 3, none⟩ = some (.int .u32 (x3 : Int)) := e3
            have p3 := p2.put (k := k) (by rw [List.length_set]; exact HKL.out) 0 (.int .u8 0) (0, x1, x2, x3) (by omega) (by rw [nd_set HKL.out]; rfl) ⟨Nat.zero_le _, o1, o2, o3⟩
            rw [List.set_set] at p3
            have HT5 := hid (show TkAt w ((wr.setCell ⟨g, k * 4, none⟩ (.int .u8 2)).setCell ⟨g, k * 4, none⟩ (.int .u8 0)) b g (.slice ag G.length cg) (.slice aa A.length ca) (L.set k (0, x1, x2, x3)) G A from HT.out.node p3 ((ksetL wr g _ _).setCell (fun _ => rfl) _))
            clear p2 p3 e1 e2
            have HSR := hid (show SrcC (((wr.setCell ⟨g, k * 4, none⟩ (.int .u8 2)).setCell ⟨g, k * 4, none⟩ (.int .u8 0)).alloc (.cells #[ivN k] 3)) (.slice (some ⟨wr.heap.size, 0, none⟩) 1 1) 1 [ivN k] from by have h := SrcC.lit ((wr.setCell ⟨g, k * 4, none⟩ (.int .u8 2)).setCell ⟨g, k * 4, none⟩ (.int .u8 0)) #[ivN k] 3 1 [ivN k] rfl; rw [show ((wr.setCell ⟨g, k * 4, none⟩ (.int .u8 2)).setCell ⟨g, k * 4, none⟩ (.int .u8 0)).heap.size = wr.heap.size by simp [World.setCell]] at h; exact h)
            go_wp2_with fail
            refine (HQ.out HKL.out).mono ?_
            rintro e w' ⟨rfl, rfl⟩
            rw [q1]
            go_wp2_with (first | (at_builtin; (refine appsw (by rfl) 39 3 (.tmp 74) (.tmp 76) rfl w.heap.size 1 8 _ Try.underlying39 infoInt rfl (by decide) (.slice aa A.length ca) _ A.length 1 (A.length + 1) (A.map ivN) [ivN k] rfl rfl (HT5.out.alloc _).ha HSR.out rfl (by intro y hy; rw [List.mem_singleton] at hy; subst hy; rfl) rfl (by omega) (by omega) (by simp; omega) ?_); intro ad9 cp9 wA hoA hgA; have HF := hid ((HT5.out.alloc _).addA k hoA hgA); clear hoA hgA) | fail)
            go_roundw
            case rel => exact ⟨k + 1, hlt, by go_num, by rw [R1.out, R2.out, HS3.out]; exact HF.out⟩
            case measure => simp [intOf]; omega
          · have d0 : wr.cell? ⟨g, k * 4, none⟩ = some (.int .u8 1) := d0
            have t1 : tick1 now (1, x1, x2, x3) = (2, x1, x2, x3) := by simp [tick1, dbt, grant, gone, hq, hl]
            have t2 : grant now (1, x1, x2, x3) = false := by simp [tick1, dbt, grant, gone, hq, hl]
            have t3 : gone now (1, x1, x2, x3) = false := by simp [tick1, dbt, grant, gone, hq, hl]
            rw [t1, t2] at HS1
            rw [t3] at HS2
            rw [t1] at HS3
            clear t1 t2 t3
            have R1 := hid (HS1.out.trans (rfl : _ = G))
            have R2 := hid (HS2.out.trans (rfl : _ = A))
            have q1 : qui now (1, x1, x2, x3) = true := by simp [qui, hq]
            have hlI : ¬ x3 < now := hl
            have hlD : decide ((x3 : Int) < (now : Int)) = false := decide_eq_false (by omega)
            have p2 := HP.out (.int .u8 2) (2, x1, x2, x3) rfl ⟨Nat.le_refl _, o1, o2, o3⟩
            obtain ⟨e0, e1, e2, e3⟩ := p2.cells (k := k) (by rw [List.length_set]; exact HKL.out)
            rw [nd_set HKL.out] at e0 e1 e2 e3
            dsimp only at e0 e1 e2 e3
            have e0 : (wr.setCell ⟨g, k * 4, none⟩ (.int .u8 2)).cell? ⟨g, k * 4, none⟩ = some (.int .u8 2) := e0
            have e3 : (wr.setCell ⟨g, k * 4, none⟩ (.int .u8 2)).cell? ⟨g, k * 4 + 3, none⟩ = some (.int .u32 (x3 : Int)) := e3
            have HT5 := hid (HT.out.node p2 (ksetL wr g _ _))
            clear p2 e1 e2
            go_wp2_with fail
            refine (HQ.out HKL.out).mono ?_
            rintro e w' ⟨rfl, rfl⟩
            rw [q1]
            go_wp2_with fail
            go_roundw
            case rel => exact ⟨k + 1, hlt, by go_num, by rw [R1.out, R2.out, HS3.out]; exact HT5.out⟩
            case measure => simp [intOf]; omega
        · have d0 : wr.cell? ⟨g, k * 4, none⟩ = some (.int .u8 1) := d0
          have t1 : tick1 now (1, x1, x2, x3) = (1, x1, x2, max x3 (lat now)) := by simp [tick1, dbt, grant, gone, hq]
          have t2 : grant now (1, x1, x2, x3) = true := by simp [tick1, dbt, grant, gone, hq]
          have t3 : gone now (1, x1, x2, x3) = false := by simp [tick1, dbt, grant, gone, hq]
          rw [t1, t2] at HS1
          rw [t3] at HS2
          rw [t1] at HS3
          clear t1 t2 t3
          have R1 := hid (HS1.out.trans (rfl : _ = G ++ [(k, max x3 (lat now))]))
          have R2 := hid (HS2.out.trans (rfl : _ = A))
          have q1 : qui now (1, x1, x2, x3) = false := by simp [qui, hq]
          go_wp2_with fail
          refine (HQ.out HKL.out).mono ?_
          rintro e w' ⟨rfl, rfl⟩
          rw [q1]
          go_wp2_with fail
          refine (HEX.out HKL.out).mono ?_
          rintro e w5 ⟨rfl, hb5, hk5⟩
          have hs5 := hk5.size
          obtain ⟨-, -, -, e3⟩ := hb5.cells (k := k) (by rw [List.length_set]; exact HKL.out)
          rw [nd_set HKL.out] at e3
          dsimp only at e3 hb5
          have HT5 := hid (HT.out.node hb5 hk5)
          clear hb5 hk5
          go_wp2_with (first | (at_builtin; (refine appsw (by rfl) 42 47 (.tmp 48) (.tmp 55) rfl w.heap.size 2 16 _ Try.underlying42 infoG rfl (by decide) (.slice ag G.length cg) _ G.length 1 (G.length + 1) _ _ rfl rfl (HT5.out.alloc _).hg (SrcC.lit _ _ _ 1 [.int .i64 (k : Int), .int .u32 ((max x3 (lat now) : Nat) : Int)] rfl) rfl (by intro y hy; simp at hy; rcases hy with rfl | rfl <;> rfl) rfl (by omega) (by omega) (by simp; omega) ?_); intro ad9 cp9 wA hoA hgA; have HF := hid ((HT5.out.alloc _).addG (k, max x3 (lat now)) hoA hgA); clear hoA hgA) | fail)
          go_roundw
          case rel => exact ⟨k + 1, hlt, by go_num, by rw [R1.out, R2.out, HS3.out]; exact HF.out⟩
          case measure => simp [intOf]; omega
      · by_cases h2 : x0 = 2
        · subst h2
          by_cases hl : x3 < now
          · have d0 : wr.cell? ⟨g, k * 4, none⟩ = some (.int .u8 2) := d0
            have t1 : tick1 now (2, x1, x2, x3) = (0, x1, x2, x3) := by simp [tick1, dbt, grant, gone, hl]
            have t2 : grant now (2, x1, x2, x3) = false := by simp [tick1, dbt, grant, gone, hl]
            have t3 : gone now (2, x1, x2, x3) = true := by simp [tick1, dbt, grant, gone, hl]
            rw [t1, t2] at HS1
            rw [t3] at HS2
            rw [t1] at HS3
            clear t1 t2 t3
            have R1 := hid (HS1.out.trans (rfl : _ = G))
            have R2 := hid (HS2.out.trans (rfl : _ = A ++ [k]))
            have hlI : x3 < now := hl
            have hlD : decide ((x3 : Int) < (now : Int)) = true := decide_eq_true (by omega)
            have p3 := HP.out (.int .u8 0) (0, x1, x2, x3) rfl ⟨Nat.zero_le _, o1, o2, o3⟩
            have HT5 := hid (show TkAt w (wr.setCell ⟨g, k * 4, none⟩ (.int .u8 0)) b g (.slice ag G.length cg) (.slice aa A.length ca) (L.set k (0, x1, x2, x3)) G A from HT.out.node p3 (ksetL wr g _ _))
            clear p3
            have HSR := hid (show SrcC ((wr.setCell ⟨g, k * 4, none⟩ (.int .u8 0)).alloc (.cells #[ivN k] 3)) (.slice (some ⟨wr.heap.size, 0, none⟩) 1 1) 1 [ivN k] from by have h := SrcC.lit (wr.setCell ⟨g, k * 4, none⟩ (.int .u8 0)) #[ivN k] 3 1 [ivN k] rfl; rw [show (wr.setCell ⟨g, k * 4, none⟩ (.int .u8 0)).heap.size = wr.heap.size by simp [World.setCell]] at h; exact h)
            go_wp2_with (first | (at_builtin; (refine appsw (by rfl) 39 3 (.tmp 74) (.tmp 76) rfl w.heap.size 1 8 _ Try.underlying39 infoInt rfl (by decide) (.slice aa A.length ca) _ A.length 1 (A.length + 1) (A.map ivN) [ivN k] rfl rfl (HT5.out.alloc _).ha HSR.out rfl (by intro y hy; rw [List.mem_singleton] at hy; subst hy; rfl) rfl (by omega) (by omega) (by simp; omega) ?_); intro ad9 cp9 wA hoA hgA; have HF := hid ((HT5.out.alloc _).addA k hoA hgA); clear hoA hgA) | fail)
            go_roundw
            case rel => exact ⟨k + 1, hlt, by go_num, by rw [R1.out, R2.out, HS3.out]; exact HF.out⟩
            case measure => simp [intOf]; omega
          · have d0 : wr.cell? ⟨g, k * 4, none⟩ = some (.int .u8 2) := d0
            have t1 : tick1 now (2, x1, x2, x3) = (2, x1, x2, x3) := by simp [tick1, dbt, grant, gone, hl]
            have t2 : grant now (2, x1, x2, x3) = false := by simp [tick1, dbt, grant, gone, hl]
            have t3 : gone now (2, x1, x2, x3) = false := by simp [tick1, dbt, grant, gone, hl]
            rw [t1, t2] at HS1
            rw [t3] at HS2
            rw [t1] at HS3
            clear t1 t2 t3
            have R1 := hid (HS1.out.trans (rfl : _ = G))
            have R2 := hid (HS2.out.trans (rfl : _ = A))
            have hlI : ¬ x3 < now := hl
            have hlD : decide ((x3 : Int) < (now : Int)) = false := decide_eq_false (by omega)
            have HS := hid (show L.set k (2, x1, x2, x3) = L from by rw [← HND.out]; unfold nd; rw [List.getD_eq_getElem?_getD, List.getElem?_eq_getElem HKL.out]; exact List.set_getElem_self HKL.out)
            go_wp2_with fail
            go_roundw
            case rel => exact ⟨k + 1, hlt, by go_num, by rw [R1.out, R2.out, HS3.out]; rw [HS.out]; exact HT.out⟩
            case measure => simp [intOf]; omega
        · obtain rfl : x0 = 0 := by omega
          have d0 : wr.cell? ⟨g, k * 4, none⟩ = some (.int .u8 0) := d0
          have t1 : tick1 now (0, x1, x2, x3) = (0, x1, x2, x3) := by simp [tick1, dbt, grant, gone]
          have t2 : grant now (0, x1, x2, x3) = false := by simp [tick1, dbt, grant, gone]
          have t3 : gone now (0, x1, x2, x3) = false := by simp [tick1, dbt, grant, gone]
          rw [t1, t2] at HS1
          rw [t3] at HS2
          rw [t1] at HS3
          clear t1 t2 t3
          have R1 := hid (HS1.out.trans (rfl : _ = G))
          have R2 := hid (HS2.out.trans (rfl : _ = A))
          have HS := hid (show L.set k (0, x1, x2, x3) = L from by rw [← HND.out]; unfold nd; rw [List.getD_eq_getElem?_getD, List.getElem?_eq_getElem HKL.out]; exact List.set_getElem_self HKL.out)
          go_wp2_with fail
          go_roundw
          case rel => exact ⟨k + 1, hlt, by go_num, by rw [R1.out, R2.out, HS3.out]; rw [HS.out]; exact HT.out⟩
          case measure => simp [intOf]; omega
    · have e : k = n := by omega
      have hki : ¬ (k : Int) < (n : Int) := by omega
      have HF := hid (show TkAt w wr b g (.slice ag (grants now l k).length cg) (.slice aa (aways now l k).length ca) (ticks now l) (grants now l n) (aways now l n) by rw [← HALL.out, ← HN.out, ← e]; exact hT)
      clear hlt e hT
      go_wp2_with fail
      go_ret2
      exact ⟨_, _, rfl, HF.out⟩

end Go.Proofs.Ytljnkebmdegcpaa
