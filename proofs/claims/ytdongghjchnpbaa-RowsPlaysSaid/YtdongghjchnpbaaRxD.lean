/-
  The document's matrix: Put of nodes that are right.
-/
import Derived.Test.YtdongghjchnpbaaRxC
namespace Go.Proofs.Ytdongghjchnpbaa
open Go.RowKit Go.Shelf
set_option linter.unusedVariables false

theorem Mx.stand_snoc (m : Mx) (row : Nat) (l : List Nat) (n j : Nat) : m.stand row (l ++ [n]) j = (m.stand row l j).put (16 * row + n) j := by simp [Mx.stand]

theorem fit_false_of {m : Mx} {i n : Nat} {l : List Nat} (hn : n ∈ l) (hc : m.c (16 * i + n) ≠ 0) : m.fit i l = false := by
  unfold Mx.fit
  rw [Bool.eq_false_iff]
  intro h
  rw [List.all_eq_true] at h
  have := h n hn
  simp at this
  exact hc this

set_option maxHeartbeats 8000000 in
theorem rput_ok (w : World) (lo : Nat) (G : Geo) (j i : Nat) (v : Value) (l : List Nat) (m : Mx) (h : RxAt w lo G m) (hr : RdV w v (l.map iv)) (hoff : ∀ g o n c, v = .slice (some ⟨g, o, none⟩) n c → ¬ G.own m.r g) (hj : j ≠ 0) (hj2 : j < 4294967296) (hi : i < m.r) (hl : OkL m.n l) :
    Calls Try.prog 18 #[.pointer (some ⟨G.x, 0, none⟩), .int .u32 (j : Nat), .int .i64 i, v] w fun e w' =>
      ((∃ r0, m.where j = some r0) ∧ e = .returned (.int .i64 7) ∧ RxAt w' lo G m ∧ Below w.heap.size w w') ∨
      (m.where j = none ∧ m.fit i l = false ∧ e = .returned (.int .i64 15) ∧ RxAt w' lo G m ∧ Below w.heap.size w w') ∨
      (m.where j = none ∧ m.fit i l = true ∧ e = .returned (.int .i64 0) ∧ RxAt w' lo G (m.stand i l j) ∧ Keeps (G.own m.r) w w') := by
  have hc0 := h.c0
  have hc1 := h.c1
  have hccr := h.ccr
  have hr8 := h.r8
  have hn16 := h.n16
  have hri : (m.r : Int) ≤ 8 := by omega
  have hni : (m.n : Int) ≤ 16 := by omega
  have hccm := h.ccm
  have hcum := h.cum
  have hcur := h.cur
  obtain ⟨ad, cap, rfl, hcl, hcm⟩ := hr.len
  rw [List.length_map] at hcl hr
  have HR := hid hr
  have HX := hid h
  have HJ2 := hid hj2
  have HL := hid hl
  have HOF := hid (show ∀ g o, ad = some ⟨g, o, none⟩ → ¬ G.own m.r g from fun g o e => hoff g o _ _ (by rw [e]))
  have hl0 : l.length ≠ 0 := fun e => hl.ne (List.eq_nil_of_length_eq_zero e)
  have hy1 : ((j : Int) == 0) = false := by simp; omega
  have e0 : ((l.length : Int) == 0) = false := by rw [beq_eq_false_iff_ne]; omega
  have d1 : decide ((i : Int) < 0) = false := by simp
  have d2 : decide ((m.r : Int) ≤ (i : Int)) = false := by simp; omega
  have d3 : decide ((i : Int) ≥ (m.r : Int)) = false := by simp; omega
  have hlm : l.length ≤ 9223372036854775807 := by omega
  have hii : (i : Int) < (m.r : Int) := by omega
  have HJ := hid hj
  clear h hr hj2 hl hoff hj
  rw [List.length_map]
  go_enter Try.func18, Try.ntmps18
  go_wp2_with fail
  go_loop [42] (fun q => ∃ k : Nat, k ≤ l.length ∧ q = .int .i64 k ∧ Hid (m.n ≤ 16)) (fun q => l.length - (intOf q).toNat)
  case atStart => exact ⟨0, Nat.zero_le _, rfl, hid hn16⟩
  case round =>
    obtain ⟨k, hk, rfl, -⟩ := hrel
    by_cases hlt : k < l.length
    · have hki : (k : Int) < (l.length : Int) := by omega
      obtain ⟨x, hx⟩ : ∃ x, l[k]? = some x := ⟨_, List.getElem?_eq_getElem hlt⟩
      have hxn := HL.out.lt x (List.mem_of_getElem? hx)
      obtain ⟨-, g, o, rfl, hg, hcell⟩ := HR.out.at1 k (iv x) (by simp [hx])
      have hcell2 : w.cell? ⟨g, o + k, none⟩ = some (.int .i64 x) := hcell
      have g1 : decide ((x : Int) < 0) = false := by simp
      have g2 : decide ((m.n : Int) ≤ (x : Int)) = false := by simp; omega
      have g3 : decide ((x : Int) ≥ (m.n : Int)) = false := by simp; omega
      by_cases hk0 : k = 0
      · have hkk : decide ((k : Int) > 0) = false := by simp; omega
        have hkk2 : decide ((0 : Int) < (k : Int)) = false := by simp; omega
        subst hk0
        rw [Nat.add_zero] at hcell2
        clear hcell hx hg
        go_wp2_with fail
        go_round
        case rel => exact ⟨_, _, _, _, ⟨1, hlt, by go_num, hid trivial⟩, rfl, rfl, rfl, rfl⟩
        case measure => simp [intOf]; omega
      · have hkk : decide ((k : Int) > 0) = true := by simp; omega
        have hkk2 : decide ((0 : Int) < (k : Int)) = true := by simp; omega
        have hk1 : (1 : Int) ≤ (k : Int) := by omega
        have hk2 : 0 < k := by omega
        obtain ⟨y, hy⟩ : ∃ y, l[k - 1]? = some y := ⟨_, List.getElem?_eq_getElem (by omega)⟩
        obtain ⟨-, g', o', e', _, hp⟩ := HR.out.at1 (k - 1) (iv y) (by simp [hy])
        simp only [Option.some.injEq, Addr.mk.injEq] at e'
        obtain ⟨rfl, rfl, _⟩ := e'
        have hp2 : w.cell? ⟨g, o + (k - 1), none⟩ = some (.int .i64 y) := hp
        have hyx : y < x := by
          have h5 := List.pairwise_iff_getElem.1 HL.out.rising (k - 1) k (by omega) hlt (by omega)
          have h6 := (List.getElem?_eq_some_iff.1 hy).2
          have h7 := (List.getElem?_eq_some_iff.1 hx).2
          omega
        have g4 : decide ((x : Int) ≤ (y : Int)) = false := by simp; omega
        clear hp hcell hx hg hy
        go_wp2_with fail
        go_round
        case rel => exact ⟨_, _, _, _, ⟨k + 1, hlt, by go_num, hid trivial⟩, rfl, rfl, rfl, rfl⟩
        case measure => simp [intOf]; omega
    · have hki : ¬ (k : Int) < (l.length : Int) := by omega
      clear hlt
      go_wp2_with fail
      refine (rof_any w lo G m j HX.out).mono ?_
      rintro e w1 ⟨v1, rfl, -, hb1⟩
      have HB1 := hid hb1
      have HX1 := hid (HX.out.below hb1 (Nat.le_refl _))
      clear hb1
      cases hw : m.where j with
      | some r0 =>
        have HW := hid hw
        clear hw
        go_wp2
        go_ret
        exact .inl ⟨⟨r0, HW.out⟩, rfl, HX1.out, HB1.out⟩
      | none =>
        have HW := hid hw
        clear hw hc0 hc1
        have hc0 := HX1.out.c0
        have hrow := HX1.out.row i hi
        obtain ⟨hcp1, hcp2⟩ := HX1.out.cpn i hi
        have HR1 := hid (HR.out.all HB1.out)
        go_wp2_with fail
        go_loop [82] (fun q => ∃ k : Nat, k ≤ l.length ∧ q = .int .i64 k ∧ m.fit i (l.take k) = true) (fun q => l.length - (intOf q).toNat)
        case atStart => exact ⟨0, Nat.zero_le _, rfl, rfl⟩
        case round =>
          obtain ⟨k, hk, rfl, ha⟩ := hrel
          have HA := hid ha
          clear ha
          by_cases hlt : k < l.length
          · have hki : (k : Int) < (l.length : Int) := by omega
            obtain ⟨x, hx⟩ : ∃ x, l[k]? = some x := ⟨_, List.getElem?_eq_getElem hlt⟩
            have hxm := List.mem_of_getElem? hx
            have hxn := HL.out.lt x hxm
            have HXM := hid hxm
            have HT := hid (take_snoc' l k x hx)
            obtain ⟨-, g, o, rfl, hg, hcell⟩ := HR1.out.at1 k (iv x) (by simp [hx])
            have hcell2 : w1.cell? ⟨g, o + k, none⟩ = some (.int .i64 x) := hcell
            have hcx := HX1.out.cell i x hi hxn
            have hxi : (x : Int) < (m.n : Int) := by omega
            clear hcell hx hg hxm
            by_cases hz : m.c (16 * i + x) = 0
            · have HZ := hid hz
              rw [hz] at hcx
              clear hz
              go_wp2_with fail
              go_round
              case rel => exact ⟨k + 1, hlt, by go_num, by rw [HT.out]; unfold Mx.fit; rw [List.all_append]; have := HA.out; unfold Mx.fit at this; rw [this]; simp [HZ.out]⟩
              case measure => simp [intOf]; omega
            · obtain ⟨y, hy⟩ : ∃ y, m.c (16 * i + x) = y + 1 := ⟨m.c (16 * i + x) - 1, by omega⟩
              have HF := hid (fit_false_of HXM.out hz)
              rw [hy] at hcx
              have hy1 : ((((y : Nat) : Int) + 1) == 0) = false := by simp; omega
              have hy2 : ((((y : Nat) : Int) + 1) != 0) = true := by simp; omega
              clear hz hy
              go_wp2_with fail
              go_ret
              exact .inr (.inl ⟨HW.out, HF.out, rfl, HX1.out, HB1.out⟩)
          · have hki : ¬ (k : Int) < (l.length : Int) := by omega
            have HF := hid (show m.fit i l = true by
              have e : k = l.length := by omega
              have := HA.out
              rwa [e, List.take_length] at this)
            clear hlt
            go_wp2_with fail
            go_loopw [100] (fun q wr => ∃ k : Nat, k ≤ l.length ∧ q = .int .i64 k ∧ RxAt wr lo G (m.stand i (l.take k) j) ∧ Keeps (G.own m.r) w1 wr) (fun q _ => l.length - (intOf q).toNat)
            case atStart => exact ⟨0, Nat.zero_le _, rfl, HX1.out, Keeps.refl _ _⟩
            case round =>
              obtain ⟨k, hk, rfl, hm, hkp⟩ := hrel
              have HM := hid hm
              have HKP := hid hkp
              clear hc0 hrow
              have hc0 := hm.c0
              have hrow := hm.row i (by rw [Mx.stand_r]; exact hi)
              rw [Mx.stand_n] at hrow
              rw [Mx.stand_r] at hc0
              clear hm hkp
              by_cases hlt : k < l.length
              · have hki : (k : Int) < (l.length : Int) := by omega
                obtain ⟨x, hx⟩ : ∃ x, l[k]? = some x := ⟨_, List.getElem?_eq_getElem hlt⟩
                have hxm := List.mem_of_getElem? hx
                have hxn := HL.out.lt x hxm
                have HT := hid (take_snoc' l k x hx)
                have hrd := HR1.out.blk HKP.out HOF.out
                obtain ⟨-, g, o, rfl, hg, hcell⟩ := hrd.at1 k (iv x) (by simp [hx])
                have hcell2 : wr.cell? ⟨g, o + k, none⟩ = some (.int .i64 x) := hcell
                have hcx := HM.out.cell i x (by rw [Mx.stand_r]; exact hi) (by rw [Mx.stand_n]; exact hxn)
                have hfx := HM.out.frz i x (by rw [Mx.stand_r]; exact hi)
                have hxi : (x : Int) < (m.n : Int) := by omega
                have HN := hid (show RxAt (wr.setCell ⟨G.g i, x, none⟩ (.int .u32 (j : Nat))) lo G (m.stand i (l.take (k + 1)) j) by
                  rw [HT.out, Mx.stand_snoc]
                  exact HM.out.put i x j (by rw [Mx.stand_r]; exact hi) (by rw [Mx.stand_n]; exact hxn) HJ2.out)
                have HK2 := hid (show Keeps (G.own m.r) w1 (wr.setCell ⟨G.g i, x, none⟩ (.int .u32 (j : Nat))) from HKP.out.trans ((Keeps.refl (G.own m.r) wr).setCell (p := ⟨G.g i, x, none⟩) (fun _ => ⟨i, hi, rfl⟩) _))
                clear hcell hx hg hxm hrd
                go_wp2_with fail
                go_roundw
                case rel => exact ⟨k + 1, hlt, by go_num, HN.out, HK2.out⟩
                case measure => simp [intOf]; omega
              · have hki : ¬ (k : Int) < (l.length : Int) := by omega
                have HN := hid (show RxAt wr lo G (m.stand i l j) by
                  have e : k = l.length := by omega
                  have := HM.out
                  rwa [e, List.take_length] at this)
                clear hlt
                go_wp2
                go_ret
                exact .inr (.inr ⟨HW.out, HF.out, rfl, HN.out, (Keeps.of_below HB1.out (fun q hq hge => absurd hq (by omega))).trans HKP.out⟩)

/-- The document's Put, whole. -/
theorem rput_all (w : World) (lo : Nat) (G : Geo) (j : Nat) (row : Int) (v : Value) (l : List Int) (m : Mx) (h : RxAt w lo G m) (hr : RdV w v (l.map iw)) (hoff : ∀ g o n c, v = .slice (some ⟨g, o, none⟩) n c → ¬ G.own m.r g) (hj2 : j < 4294967296) :
    Calls Try.prog 18 #[.pointer (some ⟨G.x, 0, none⟩), .int .u32 (j : Nat), .int .i64 row, v] w fun e w' => e = .returned (.int .i64 (m.putE j row l : Nat)) ∧ RxAt w' lo G (m.putM j row l) ∧ Keeps (G.own m.r) w w' := by
  have hB : ∀ {w'}, Below w.heap.size w w' → Keeps (G.own m.r) w w' := fun hb => Keeps.of_below hb fun i hi hge => absurd hi (by omega)
  rcases put_cases m j row l with ⟨hbad, hE, hM⟩ | ⟨i, k, hj, rfl, hi, rfl, hk, h3⟩
  · rw [hE, hM]
    refine (rput_arg w lo G j row v l m h hr hbad).mono ?_
    rintro e w' ⟨rfl, rfl⟩
    exact ⟨rfl, h, Keeps.refl _ _⟩
  · have hr' : RdV w v (k.map iv) := by rw [← iv_map]; exact hr
    refine (rput_ok w lo G j i v k m h hr' hoff hj hj2 hi hk).mono ?_
    rcases h3 with ⟨⟨r0, hw⟩, hE, hM⟩ | ⟨hw, hf, hE, hM⟩ | ⟨hw, hf, hE, hM⟩
    · rw [hE, hM]
      rintro e w' (⟨_, rfl, hx, hb⟩ | ⟨h1, _⟩ | ⟨h1, _⟩)
      · exact ⟨rfl, hx, hB hb⟩
      · rw [hw] at h1; cases h1
      · rw [hw] at h1; cases h1
    · rw [hE, hM]
      rintro e w' (⟨⟨_, h1⟩, _⟩ | ⟨_, _, rfl, hx, hb⟩ | ⟨_, h1, _⟩)
      · rw [hw] at h1; cases h1
      · exact ⟨rfl, hx, hB hb⟩
      · rw [hf] at h1; cases h1
    · rw [hE, hM]
      rintro e w' (⟨⟨_, h1⟩, _⟩ | ⟨_, h1, _⟩ | ⟨_, _, rfl, hx, hb⟩)
      · rw [hw] at h1; cases h1
      · rw [hf] at h1; cases h1
      · exact ⟨rfl, hx, hb⟩

end Go.Proofs.Ytdongghjchnpbaa
