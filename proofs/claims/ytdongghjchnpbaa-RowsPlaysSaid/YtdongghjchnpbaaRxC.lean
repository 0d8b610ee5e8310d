/-
  The document's matrix: Put; both Puts, whole.
-/
import Derived.Test.YtdongghjchnpbaaRxB
namespace Go.Proofs.Ytdongghjchnpbaa
open Go.RowKit Go.Shelf
set_option linter.unusedVariables false

theorem RdV.blk {w : World} {a : Option Addr} {n cap : Nat} {xs : List Value} {S : Nat → Prop} {w' : World} (h : RdV w (.slice a n cap) xs) (hk : Keeps S w w') (hS : ∀ g o, a = some ⟨g, o, none⟩ → ¬ S g) : RdV w' (.slice a n cap) xs := by
  rcases h with h | ⟨b, off, cap', e, h1, h2, h3, h4⟩
  · exact .inl h
  · simp only [Value.slice.injEq] at e
    obtain ⟨rfl, rfl, rfl⟩ := e
    refine .inr ⟨b, off, cap, rfl, h1, h2, by have := hk.size; omega, fun j x hj => ?_⟩
    rw [hk.cell (p := ⟨b, off + j, none⟩) h3 (hS b off rfl)]
    exact h4 j x hj

/-- What Put tells. -/
def Mx.putE (m : Mx) (j : Nat) (row : Int) (l : List Int) : Nat :=
  if j = 0 ∨ (row < 0 ∨ (m.r : Int) ≤ row) ∨ (okNodes m.n (-1) l && decide (0 < l.length)) = false then 1
  else if (m.where j).isSome then 7 else if m.fit row.toNat (l.map Int.toNat) then 0 else 15
def Mx.putM (m : Mx) (j : Nat) (row : Int) (l : List Int) : Mx := if m.putE j row l = 0 then m.stand row.toNat (l.map Int.toNat) j else m

theorem put_cases (m : Mx) (j : Nat) (row : Int) (l : List Int) :
    ((j = 0 ∨ (row < 0 ∨ (m.r : Int) ≤ row) ∨ (okNodes m.n (-1) l && decide (0 < l.length)) = false) ∧ m.putE j row l = 1 ∧ m.putM j row l = m) ∨
    ∃ (i : Nat) (k : List Nat), j ≠ 0 ∧ row = i ∧ i < m.r ∧ l = k.map Int.ofNat ∧ OkL m.n k ∧
      (((∃ r0, m.where j = some r0) ∧ m.putE j row l = 7 ∧ m.putM j row l = m) ∨
       (m.where j = none ∧ m.fit i k = false ∧ m.putE j row l = 15 ∧ m.putM j row l = m) ∨
       (m.where j = none ∧ m.fit i k = true ∧ m.putE j row l = 0 ∧ m.putM j row l = m.stand i k j)) := by
  by_cases hbad : j = 0 ∨ (row < 0 ∨ (m.r : Int) ≤ row) ∨ (okNodes m.n (-1) l && decide (0 < l.length)) = false
  · have h1 : m.putE j row l = 1 := by unfold Mx.putE; rw [if_pos hbad]
    exact .inl ⟨hbad, h1, by unfold Mx.putM; rw [h1, if_neg (by omega)]⟩
  · right
    have hj : j ≠ 0 := fun h => hbad (.inl h)
    have hr : ¬ (row < 0 ∨ (m.r : Int) ≤ row) := fun h => hbad (.inr (.inl h))
    have hl : (okNodes m.n (-1) l && decide (0 < l.length)) = true := by
      cases h : (okNodes m.n (-1) l && decide (0 < l.length)) with
      | true => rfl
      | false => exact absurd (.inr (.inr h)) hbad
    obtain ⟨i, rfl⟩ := Int.eq_ofNat_of_zero_le (show 0 ≤ row by omega)
    obtain ⟨k, rfl, hk⟩ := okL_of_int hl
    have hkk : (k.map Int.ofNat).map Int.toNat = k := by
      rw [List.map_map]
      conv => rhs; rw [← List.map_id k]
      exact List.map_congr_left fun x _ => rfl
    have hE : m.putE j i (k.map Int.ofNat) = if (m.where j).isSome then 7 else if m.fit i k then 0 else 15 := by
      unfold Mx.putE
      rw [if_neg hbad, hkk, Int.toNat_natCast]
    refine ⟨i, k, hj, rfl, by omega, rfl, hk, ?_⟩
    cases hw : m.where j with
    | some r0 =>
      have h1 : m.putE j i (k.map Int.ofNat) = 7 := by rw [hE, hw]; rfl
      exact .inl ⟨⟨r0, rfl⟩, h1, by unfold Mx.putM; rw [h1, if_neg (by omega)]⟩
    | none =>
      cases hf : m.fit i k with
      | false =>
        have h1 : m.putE j i (k.map Int.ofNat) = 15 := by rw [hE, hw, hf]; rfl
        exact .inr (.inl ⟨rfl, rfl, h1, by unfold Mx.putM; rw [h1, if_neg (by omega)]⟩)
      | true =>
        have h1 : m.putE j i (k.map Int.ofNat) = 0 := by rw [hE, hw, hf]; rfl
        exact .inr (.inr ⟨rfl, rfl, h1, by unfold Mx.putM; rw [h1, if_pos rfl, hkk, Int.toNat_natCast]⟩)

/-- The program's Put, whole. -/
theorem put_all (w : World) (b j : Nat) (row : Int) (v : Value) (l : List Int) (m : Mx) (h : MxAt w b m) (hr : RdV w v (l.map iw)) (ho : Off v b) (hj2 : j < 4294967296) :
    Calls Try.prog 17 #[.pointer (some ⟨b, 0, none⟩), .int .u32 (j : Nat), .int .i64 row, v] w fun e w' => e = .returned (.int .i64 (m.putE j row l : Nat)) ∧ MxAt w' b (m.putM j row l) ∧ Keeps (fun k => k = b) w w' := by
  have hB : ∀ {w'}, Below w.heap.size w w' → MxAt w' b m ∧ Keeps (fun k => k = b) w w' := fun hb => ⟨h.below hb h.lt, Keeps.of_below hb fun i hi hge => absurd hi (by omega)⟩
  rcases put_cases m j row l with ⟨hbad, hE, hM⟩ | ⟨i, k, hj, rfl, hi, rfl, hk, h3⟩
  · rw [hE, hM]
    refine (put_arg w b j row v l m h hr hbad).mono ?_
    rintro e w' ⟨rfl, rfl⟩
    exact ⟨rfl, h, Keeps.refl _ _⟩
  · have hr' : RdV w v (k.map iv) := by rw [← iv_map]; exact hr
    rcases h3 with ⟨⟨r0, hw⟩, hE, hM⟩ | ⟨hw, hf, hE, hM⟩ | ⟨hw, hf, hE, hM⟩
    · rw [hE, hM]
      refine (put_twice w b j i r0 v k m h hr' hj hi hk hw).mono ?_
      rintro e w' ⟨rfl, hb⟩
      exact ⟨rfl, hB hb⟩
    · rw [hE, hM]
      refine (put_busy w b j i v k m h hr' hj hi hk hw hf).mono ?_
      rintro e w' ⟨rfl, hb⟩
      exact ⟨rfl, hB hb⟩
    · rw [hE, hM]
      refine (put_yes w b j i v k m h hr' ho hj hj2 hi hk hw hf).mono ?_
      rintro e w' ⟨rfl, hm, hk⟩
      exact ⟨rfl, hm, hk⟩

theorem rput_nil (w : World) (j : Nat) (row : Int) (v : Value) :
    Calls Try.prog 18 #[.pointer none, .int .u32 (j : Nat), .int .i64 row, v] w fun e w' => e = .returned (.int .i64 6) ∧ w = w' := by
  go_enter Try.func18, Try.ntmps18
  go_wp2
  go_ret
  exact ⟨rfl, rfl⟩

theorem okNodes_head {n : Nat} {la la' x : Int} {l : List Int} (h : la < x ↔ la' < x) : okNodes n la (x :: l) = okNodes n la' (x :: l) := by
  unfold okNodes
  rw [show decide (la < x) = decide (la' < x) from decide_eq_decide.2 h]

set_option maxHeartbeats 4000000 in
/-- The nodes that aren't right, or the job, or the row. -/
theorem rput_arg (w : World) (lo : Nat) (G : Geo) (j : Nat) (row : Int) (v : Value) (l : List Int) (m : Mx) (h : RxAt w lo G m) (hr : RdV w v (l.map iw)) (hbad : j = 0 ∨ (row < 0 ∨ (m.r : Int) ≤ row) ∨ (okNodes m.n (-1) l && decide (0 < l.length)) = false) :
    Calls Try.prog 18 #[.pointer (some ⟨G.x, 0, none⟩), .int .u32 (j : Nat), .int .i64 row, v] w fun e w' => e = .returned (.int .i64 1) ∧ w = w' := by
  have hc0 := h.c0
  have hc1 := h.c1
  have hccr := h.ccr
  have hr8 := h.r8
  have hn16 := h.n16
  have hri : (m.r : Int) ≤ 8 := by omega
  have hni : (m.n : Int) ≤ 16 := by omega
  have hccm := h.ccm
  have hcum := h.cum
  have hcur := h.cur
  obtain ⟨ad, cap, rfl, hcl, hcm⟩ := hr.len
  rw [List.length_map] at hcl hr
  have HR := hid hr
  have HB := hid hbad
  clear h hr
  rw [List.length_map]
  by_cases hj : j = 0
  · subst hj
    clear hbad
    go_enter Try.func18, Try.ntmps18
    go_wp2_with fail
    go_ret
    exact ⟨rfl, rfl⟩
  have hy1 : ((j : Int) == 0) = false := by simp; omega
  by_cases hlow : row < 0
  · have d1 : decide (row < 0) = true := by simpa using hlow
    clear hbad hj hlow
    go_enter Try.func18, Try.ntmps18
    go_wp2_with fail
    go_ret
    exact ⟨rfl, rfl⟩
  have d1 : decide (row < 0) = false := by simpa using hlow
  by_cases hhigh : (m.r : Int) ≤ row
  · have d2 : decide ((m.r : Int) ≤ row) = true := by simpa using hhigh
    have d3 : decide (row ≥ (m.r : Int)) = true := by simpa using hhigh
    clear hbad hj hlow hhigh
    go_enter Try.func18, Try.ntmps18
    go_wp2_with fail
    go_ret
    exact ⟨rfl, rfl⟩
  have d2 : decide ((m.r : Int) ≤ row) = false := by simpa using hhigh
  have d3 : decide (row ≥ (m.r : Int)) = false := by simpa using hhigh
  by_cases hl0 : l.length = 0
  · have e0 : ((l.length : Int) == 0) = true := by rw [hl0]; rfl
    clear hbad hj hlow hhigh
    go_enter Try.func18, Try.ntmps18
    go_wp2_with fail
    go_ret
    exact ⟨rfl, rfl⟩
  have e0 : ((l.length : Int) == 0) = false := by rw [beq_eq_false_iff_ne]; omega
  have HF := hid (show okNodes m.n (-1) l = false by
    rcases hbad with h | h | h
    · exact absurd h hj
    · rcases h with h | h
      · exact absurd h hlow
      · exact absurd h hhigh
    · rwa [show decide (0 < l.length) = true by simp; omega, Bool.and_true] at h)
  have hlm : l.length ≤ 9223372036854775807 := by omega
  clear hbad hj hlow hhigh
  go_enter Try.func18, Try.ntmps18
  go_wp2_with fail
  go_loop [42] (fun i => ∃ (k : Nat) (y : Int), k ≤ l.length ∧ i = .int .i64 k ∧ okNodes m.n (-1) l = okNodes m.n y (l.drop k) ∧ ((k = 0 ∧ y = -1) ∨ (0 < k ∧ l[k - 1]? = some y ∧ 0 ≤ y))) (fun i => l.length - (intOf i).toNat)
  case atStart => exact ⟨0, -1, Nat.zero_le _, rfl, by simp, .inl ⟨rfl, rfl⟩⟩
  case round =>
    obtain ⟨k, y, hk, rfl, hw, hy⟩ := hrel
    have HW := hid hw
    have HY := hid hy
    clear hw hy
    by_cases hlt : k < l.length
    · have hki : (k : Int) < (l.length : Int) := by omega
      obtain ⟨x, hx⟩ : ∃ x, l[k]? = some x := ⟨_, List.getElem?_eq_getElem hlt⟩
      have HD := hid (drop_cons' hx)
      have HXX := hid hx
      obtain ⟨-, g, o, rfl, hg, hcell⟩ := HR.out.at1 k (iw x) (by simp [hx])
      have hcell2 : w.cell? ⟨g, o + k, none⟩ = some (.int .i64 x) := hcell
      have hprev : 0 < k → w.cell? ⟨g, o + (k - 1), none⟩ = some (.int .i64 y) := fun h0 => by
        rcases HY.out with ⟨h, _⟩ | ⟨_, h, _⟩
        · omega
        · obtain ⟨-, g', o', e', _, hc'⟩ := HR.out.at1 (k - 1) (iw y) (by simp [h])
          simp only [Option.some.injEq, Addr.mk.injEq] at e'
          obtain ⟨rfl, rfl, _⟩ := e'
          exact hc'
      have HP := hid hprev
      clear hcell hx hg hprev
      by_cases hx0 : x < 0
      · have g1 : decide (x < 0) = true := by simpa using hx0
        clear hx0
        go_wp2_with fail
        go_ret
        exact ⟨rfl, rfl⟩
      have g1 : decide (x < 0) = false := by simpa using hx0
      by_cases hxn : (m.n : Int) ≤ x
      · have g2 : decide ((m.n : Int) ≤ x) = true := by simpa using hxn
        have g3 : decide (x ≥ (m.n : Int)) = true := by simpa using hxn
        clear hx0 hxn
        go_wp2_with fail
        go_ret
        exact ⟨rfl, rfl⟩
      have g2 : decide ((m.n : Int) ≤ x) = false := by simpa using hxn
      have g3 : decide (x ≥ (m.n : Int)) = false := by simpa using hxn
      have HX0 := hid hx0
      have HXN := hid hxn
      clear hx0 hxn
      by_cases hk0 : k = 0
      · have HO := hid (show okNodes m.n (-1) l = okNodes m.n x (l.drop (k + 1)) by
          have h0 := HX0.out
          have h1 := HXN.out
          rcases HY.out with ⟨_, h⟩ | ⟨h, _⟩
          · rw [HW.out, HD.out, okNodes_on (by omega) (by omega) (by omega)]
          · omega)
        have hkk : decide ((k : Int) > 0) = false := by simp; omega
        have hkk2 : decide ((0 : Int) < (k : Int)) = false := by simp; omega
        have HQ := hid (show l[k + 1 - 1]? = some x from HXX.out)
        subst hk0
        rw [Nat.add_zero] at hcell2
        go_wp2_with fail
        go_round
        case rel => exact ⟨1, x, hlt, by go_num, HO.out, .inr ⟨by omega, HQ.out, by have := HX0.out; omega⟩⟩
        case measure => simp [intOf]; omega
      · have hkk : decide ((k : Int) > 0) = true := by simp; omega
        have hkk2 : decide ((0 : Int) < (k : Int)) = true := by simp; omega
        have hp := HP.out (by omega)
        have hk1 : (1 : Int) ≤ (k : Int) := by omega
        by_cases hxy : x ≤ y
        · have g4 : decide (x ≤ y) = true := by simpa using hxy
          clear hxy
          go_wp2_with fail
          go_ret
          exact ⟨rfl, rfl⟩
        · have g4 : decide (x ≤ y) = false := by simpa using hxy
          have HO := hid (show okNodes m.n (-1) l = okNodes m.n x (l.drop (k + 1)) by
            have h0 := HX0.out
            have h1 := HXN.out
            rw [HW.out, HD.out, okNodes_on (by omega) (by omega) (by omega)])
          have HQ := hid (show l[k + 1 - 1]? = some x from HXX.out)
          clear hxy
          go_wp2_with fail
          go_round
          case rel => exact ⟨k + 1, x, hlt, by go_num, HO.out, .inr ⟨by omega, HQ.out, by have := HX0.out; omega⟩⟩
          case measure => simp [intOf]; omega
    · exfalso
      have e : k = l.length := by omega
      have := HW.out
      rw [HF.out, e, List.drop_length] at this
      cases this

end Go.Proofs.Ytdongghjchnpbaa
