/-
  Contracts: hasRising, Put.
-/
import Derived.Test.YtdongghjchnpbaaRowZ
namespace Go.Proofs.Ytdongghjchnpbaa
open Go.RowKit Go.Shelf
set_option linter.unusedVariables false

def iw (x : Int) : Value := .int .i64 x

/-- Each is a node's number, and above the one ahead of it. -/
def okNodes (n : Nat) : Int → List Int → Bool
  | _, [] => true
  | la, x :: l => decide (la < x) && (decide (0 ≤ x) && decide (x < n)) && okNodes n x l

theorem drop_cons' {α : Type} {l : List α} {k : Nat} {x : α} (h : l[k]? = some x) : l.drop k = x :: l.drop (k + 1) := by
  obtain ⟨hlt, hx⟩ := List.getElem?_eq_some_iff.1 h
  rw [List.drop_eq_getElem_cons hlt, hx]

theorem okNodes_le {n : Nat} {la x : Int} {l : List Int} (h : x ≤ la) : okNodes n la (x :: l) = false := by
  unfold okNodes
  rw [show decide (la < x) = false by simp; omega]; rfl
theorem okNodes_out {n : Nat} {la x : Int} {l : List Int} (h : x < 0 ∨ (n : Int) ≤ x) : okNodes n la (x :: l) = false := by
  unfold okNodes
  rcases h with h | h
  · rw [show decide (0 ≤ x) = false by simp; omega]; simp
  · rw [show decide (x < (n : Int)) = false by simp; omega]; simp
theorem okNodes_on {n : Nat} {la x : Int} {l : List Int} (h1 : la < x) (h2 : 0 ≤ x) (h3 : x < n) : okNodes n la (x :: l) = okNodes n x l := by
  rw [okNodes, show decide (la < x) = true by simpa using h1, show decide (0 ≤ x) = true by simpa using h2, show decide (x < (n : Int)) = true by simpa using h3]; simp

set_option maxHeartbeats 1000000 in
theorem rising_any (w : World) (b : Nat) (m : Mx) (v : Value) (l : List Int) (h : MxAt w b m) (hr : RdV w v (l.map iw)) :
    Calls Try.prog 41 #[.pointer (some ⟨b, 0, none⟩), v] w fun e w' => e = .returned (.bool (okNodes m.n (-1) l && decide (0 < l.length))) ∧ w = w' := by
  obtain ⟨ad, cap, rfl, hcl, hcm⟩ := hr.len
  rw [List.length_map] at hcl
  have HR := hid hr
  have HH := hid h
  have HN16 := hid h.n16
  clear hr h
  have hlm : l.length ≤ 9223372036854775807 := by omega
  rw [List.length_map]
  go_enter Try.func41, Try.ntmps41
  go_wp2
  go_loop [5, 10] (fun la i => ∃ (k : Nat) (y : Int), k ≤ l.length ∧ i = .int .i64 k ∧ la = .int .i64 y ∧ okNodes m.n (-1) l = okNodes m.n y (l.drop k)) (fun _ i => l.length - (intOf i).toNat)
  case atStart => exact ⟨0, -1, Nat.zero_le _, rfl, rfl, by simp⟩
  case round =>
    obtain ⟨k, y, hk, rfl, rfl, hw⟩ := hrel
    have HW := hid hw
    clear hw
    by_cases hlt : k < l.length
    · obtain ⟨x, hx⟩ : ∃ x, l[k]? = some x := ⟨_, List.getElem?_eq_getElem hlt⟩
      have HD := hid (drop_cons' hx)
      rcases HR.out with ⟨_, he⟩ | ⟨g, o, cap', e, h1, h2, h3, h4⟩
      · simp at he; subst he; simp at hlt
      · rw [List.length_map] at e
        simp only [Value.slice.injEq] at e
        obtain ⟨rfl, -, rfl⟩ := e
        have hcell : w.cell? ⟨g, o + k, none⟩ = some (.int .i64 x) := h4 k (iw x) (by simp [hx])
        clear h4 h1 h2 h3 hx
        by_cases hle : x ≤ y
        · have d1 : decide (x ≤ y) = true := by simpa using hle
          have HF := hid (show okNodes m.n (-1) l = false by rw [HW.out, HD.out, okNodes_le hle])
          clear hle
          go_wp2_with fail
          go_ret
          exact ⟨by rw [HF.out]; rfl, rfl⟩
        · have d1 : decide (x ≤ y) = false := by simpa using hle
          by_cases hin : x < 0 ∨ (m.n : Int) ≤ x
          · have HI := hid hin
            have HF := hid (show okNodes m.n (-1) l = false by rw [HW.out, HD.out, okNodes_out hin])
            clear hle hin
            go_wp2_with (first
              | (go_at_call 43; refine (hasnode_no w b m x HH.out HI.out).mono ?_; rintro e w' ⟨rfl, rfl⟩)
              | fail)
            go_ret
            exact ⟨by rw [HF.out]; rfl, rfl⟩
          · obtain ⟨z, rfl⟩ := Int.eq_ofNat_of_zero_le (show 0 ≤ x by omega)
            have hz : z < m.n := by omega
            have HF := hid (show okNodes m.n (-1) l = okNodes m.n z (l.drop (k + 1)) by rw [HW.out, HD.out, okNodes_on (by omega) (by omega) (by omega)])
            clear hle hin
            go_wp2_with (first
              | (go_at_call 43; refine (hasnode_yes w b m z HH.out hz).mono ?_; rintro e w' ⟨rfl, rfl⟩)
              | fail)
            go_round
            case rel => exact ⟨k + 1, z, hlt, by go_num, rfl, HF.out⟩
            case measure => simp [intOf]; omega
    · have e : k = l.length := by omega
      have HE := hid (show okNodes m.n (-1) l = true by rw [HW.out, e, List.drop_length]; rfl)
      have e2 : (k : Int) = (l.length : Int) := by omega
      go_wp2
      go_ret
      exact ⟨by rw [HE.out]; simp, rfl⟩

theorem put_nil (w : World) (j : Nat) (row : Int) (v : Value) :
    Calls Try.prog 17 #[.pointer none, .int .u32 (j : Nat), .int .i64 row, v] w fun e w' => e = .returned (.int .i64 6) ∧ w = w' := by
  go_enter Try.func17, Try.ntmps17
  go_wp2
  go_ret
  exact ⟨rfl, rfl⟩

theorem put_arg (w : World) (b j : Nat) (row : Int) (v : Value) (l : List Int) (m : Mx) (h : MxAt w b m) (hr : RdV w v (l.map iw)) (hbad : j = 0 ∨ (row < 0 ∨ (m.r : Int) ≤ row) ∨ (okNodes m.n (-1) l && decide (0 < l.length)) = false) :
    Calls Try.prog 17 #[.pointer (some ⟨b, 0, none⟩), .int .u32 (j : Nat), .int .i64 row, v] w fun e w' => e = .returned (.int .i64 1) ∧ w = w' := by
  have HH := hid h
  have HR := hid hr
  clear h hr
  by_cases hj : j = 0
  · subst hj
    clear hbad
    go_enter Try.func17, Try.ntmps17
    go_wp2_with fail
    go_ret
    exact ⟨rfl, rfl⟩
  · have hy1 : ((j : Int) == 0) = false := by simp; omega
    have hy2 : decide ((j : Int) = 0) = false := by simp; omega
    by_cases hrow : row < 0 ∨ (m.r : Int) ≤ row
    · have HI := hid hrow
      clear hrow hbad hj
      go_enter Try.func17, Try.ntmps17
      go_wp2_with (first
        | (go_at_call 40; refine (hasrow_no w b m row HH.out HI.out).mono ?_; rintro e w' ⟨rfl, rfl⟩)
        | fail)
      go_ret
      exact ⟨rfl, rfl⟩
    · obtain ⟨i, rfl⟩ := Int.eq_ofNat_of_zero_le (show 0 ≤ row by omega)
      have hi : i < m.r := by omega
      have HF := hid (show (okNodes m.n (-1) l && decide (0 < l.length)) = false by
        rcases hbad with h | h | h
        · exact absurd h hj
        · exact absurd h hrow
        · exact h)
      clear hrow hbad hj
      go_enter Try.func17, Try.ntmps17
      go_wp2_with (first
        | (go_at_call 40; refine (hasrow_yes w b m i HH.out hi).mono ?_; rintro e w' ⟨rfl, rfl⟩)
        | (go_at_call 41; refine (rising_any w b m v l HH.out HR.out).mono ?_; rintro e w' ⟨rfl, rfl⟩; rw [HF.out])
        | fail)
      go_ret
      exact ⟨rfl, rfl⟩

theorem iv_map (l : List Nat) : (l.map Int.ofNat).map iw = l.map iv := by rw [List.map_map]; rfl

/-- The nodes are such. -/
def OkL (n : Nat) (l : List Nat) : Prop := (okNodes n (-1) (l.map Int.ofNat) && decide (0 < (l.map Int.ofNat).length)) = true

theorem okNodes_all {n : Nat} : ∀ (l : List Int) (la : Int), okNodes n la l = true → (∀ x ∈ l, la < x ∧ 0 ≤ x ∧ x < n) ∧ l.Pairwise (· < ·)
  | [], la, _ => ⟨(fun _ h => by cases h), List.Pairwise.nil⟩
  | x :: l, la, h => by
    unfold okNodes at h
    simp only [Bool.and_eq_true, decide_eq_true_eq] at h
    obtain ⟨⟨h1, h2, h3⟩, h4⟩ := h
    have ⟨a, p⟩ := okNodes_all l x h4
    refine ⟨fun y hy => ?_, List.pairwise_cons.2 ⟨fun y hy => (a y hy).1, p⟩⟩
    rcases List.mem_cons.1 hy with rfl | hy
    · exact ⟨h1, h2, h3⟩
    · have := a y hy
      exact ⟨by omega, this.2⟩

theorem okNodes_of {n : Nat} : ∀ (l : List Nat) (la : Int), (∀ x ∈ l, la < (x : Int) ∧ x < n) → l.Pairwise (· < ·) → okNodes n la (l.map Int.ofNat) = true
  | [], la, _, _ => rfl
  | x :: l, la, h, hp => by
    rw [List.pairwise_cons] at hp
    have := h x (by simp)
    rw [List.map_cons, okNodes_on (by simpa using this.1) (by simp) (by simpa using this.2)]
    exact okNodes_of l _ (fun y hy => ⟨by have := hp.1 y hy; simp; omega, (h y (by simp [hy])).2⟩) hp.2

theorem OkL.of {n : Nat} {l : List Nat} (h0 : l ≠ []) (h1 : ∀ x ∈ l, x < n) (h2 : l.Pairwise (· < ·)) : OkL n l := by
  unfold OkL
  rw [okNodes_of l (-1) (fun x hx => ⟨by omega, h1 x hx⟩) h2]
  cases l with
  | nil => exact absurd rfl h0
  | cons x l => simp

theorem OkL.lt {n : Nat} {l : List Nat} (h : OkL n l) : ∀ x ∈ l, x < n := by
  intro x hx
  unfold OkL at h
  rw [Bool.and_eq_true] at h
  have := ((okNodes_all _ _ h.1).1 (Int.ofNat x) (List.mem_map.2 ⟨x, hx, rfl⟩)).2.2
  have h2 : Int.ofNat x = (x : Int) := rfl
  omega

theorem OkL.rising {n : Nat} {l : List Nat} (h : OkL n l) : l.Pairwise (· < ·) := by
  unfold OkL at h
  rw [Bool.and_eq_true] at h
  have := (okNodes_all _ _ h.1).2
  rw [List.pairwise_map] at this
  exact this.imp fun h => by simpa using h

theorem OkL.ne {n : Nat} {l : List Nat} (h : OkL n l) : l ≠ [] := by
  rintro rfl
  unfold OkL at h
  simp at h

/-- What rises is such a list. -/
theorem okL_of_int {n : Nat} {l : List Int} (h : (okNodes n (-1) l && decide (0 < l.length)) = true) : ∃ k : List Nat, l = k.map Int.ofNat ∧ OkL n k := by
  have h1 := h
  rw [Bool.and_eq_true] at h
  have ⟨a, _⟩ := okNodes_all _ _ h.1
  refine ⟨l.map Int.toNat, ?_, ?_⟩
  · rw [List.map_map]
    conv => lhs; rw [← List.map_id l]
    apply List.map_congr_left
    intro x hx
    have := a x hx
    show x = Int.ofNat x.toNat
    have h2 : Int.ofNat x.toNat = (x.toNat : Int) := rfl
    omega
  · unfold OkL
    rw [List.map_map]
    have : l.map (Int.ofNat ∘ Int.toNat) = l := by
      conv => rhs; rw [← List.map_id l]
      apply List.map_congr_left
      intro x hx
      have := a x hx
      show Int.ofNat x.toNat = x
      have h2 : Int.ofNat x.toNat = (x.toNat : Int) := rfl
      omega
    rw [this]
    exact h1

theorem put_twice (w : World) (b j i r0 : Nat) (v : Value) (l : List Nat) (m : Mx) (h : MxAt w b m) (hr : RdV w v (l.map iv)) (hj : j ≠ 0) (hi : i < m.r) (hl : OkL m.n l) (hs : m.where j = some r0) :
    Calls Try.prog 17 #[.pointer (some ⟨b, 0, none⟩), .int .u32 (j : Nat), .int .i64 i, v] w fun e w' => e = .returned (.int .i64 7) ∧ Below w.heap.size w w' := by
  have HH := hid h
  have HR := hid (show RdV w v ((l.map Int.ofNat).map iw) by rw [iv_map]; exact hr)
  have HL := hid hl
  have HS := hid hs
  have hy1 : ((j : Int) == 0) = false := by simp; omega
  have hy2 : decide ((j : Int) = 0) = false := by simp; omega
  clear h hr hl hj hs
  go_enter Try.func17, Try.ntmps17
  go_wp2_with (first
    | (go_at_call 40; refine (hasrow_yes w b m i HH.out hi).mono ?_; rintro e w' ⟨rfl, rfl⟩)
    | (go_at_call 41; refine (rising_any w b m v _ HH.out HR.out).mono ?_; rintro e w' ⟨rfl, rfl⟩; rw [show (okNodes m.n (-1) (l.map Int.ofNat) && decide (0 < (l.map Int.ofNat).length)) = true from HL.out])
    | (go_at_call 35; refine (stands_any w b m j HH.out).mono ?_; rintro e w1 ⟨rfl, hb1⟩; rw [HS.out, Option.isSome_some]; have HB1 := hid hb1; clear hb1)
    | fail)
  go_ret
  exact ⟨rfl, HB1.out⟩

/-- Are these nodes' cells free? -/
def Mx.fit (m : Mx) (i : Nat) (l : List Nat) : Bool := l.all fun n => m.c (16 * i + n) == 0

theorem put_busy (w : World) (b j i : Nat) (v : Value) (l : List Nat) (m : Mx) (h : MxAt w b m) (hr : RdV w v (l.map iv)) (hj : j ≠ 0) (hi : i < m.r) (hl : OkL m.n l) (hs : m.where j = none) (hf : m.fit i l = false) :
    Calls Try.prog 17 #[.pointer (some ⟨b, 0, none⟩), .int .u32 (j : Nat), .int .i64 i, v] w fun e w' => e = .returned (.int .i64 15) ∧ Below w.heap.size w w' := by
  have HH := hid h
  have HB := hid h.lt
  have HRV := hid hr
  have HR := hid (show RdV w v ((l.map Int.ofNat).map iw) by rw [iv_map]; exact hr)
  have HL := hid hl
  have HS := hid hs
  have HF := hid hf
  have hr8 := h.r8
  have hn16 := h.n16
  have hii : (i : Int) < 8 := by omega
  have hy1 : ((j : Int) == 0) = false := by simp; omega
  have hy2 : decide ((j : Int) = 0) = false := by simp; omega
  clear h hr hl hj hs hf
  go_enter Try.func17, Try.ntmps17
  go_wp2_with (first
    | (go_at_call 40; refine (hasrow_yes w b m i HH.out hi).mono ?_; rintro e w' ⟨rfl, rfl⟩)
    | (go_at_call 41; refine (rising_any w b m v _ HH.out HR.out).mono ?_; rintro e w' ⟨rfl, rfl⟩; rw [show (okNodes m.n (-1) (l.map Int.ofNat) && decide (0 < (l.map Int.ofNat).length)) = true from HL.out])
    | (go_at_call 35; refine (stands_any w b m j HH.out).mono ?_; rintro e w1 ⟨rfl, hb1⟩; rw [HS.out, Option.isSome_none]; have HB1 := hid hb1; clear hb1)
    | (go_at_call 42; refine (goes_any w1 b (2 + i * 16) (fun n => m.c (16 * i + n)) v l (fun n hn => by have := (HH.out.below HB1.out HB.out).cc (16 * i + n) (by omega); rwa [show 2 + (16 * i + n) = 2 + i * 16 + n by omega] at this) (HRV.out.all HB1.out) (fun n hn => by have := HL.out.lt n hn; omega)).mono ?_; rintro e w2 ⟨rfl, rfl⟩; rw [show (l.all fun n => m.c (16 * i + n) == 0) = false from HF.out])
    | fail)
  go_ret
  exact ⟨rfl, HB1.out⟩

theorem put_yes (w : World) (b j i : Nat) (v : Value) (l : List Nat) (m : Mx) (h : MxAt w b m) (hr : RdV w v (l.map iv)) (ho : Off v b) (hj : j ≠ 0) (hj2 : j < 4294967296) (hi : i < m.r) (hl : OkL m.n l) (hs : m.where j = none) (hf : m.fit i l = true) :
    Calls Try.prog 17 #[.pointer (some ⟨b, 0, none⟩), .int .u32 (j : Nat), .int .i64 i, v] w fun e w' => e = .returned (.int .i64 0) ∧ MxAt w' b (m.stand i l j) ∧ Keeps (fun k => k = b) w w' := by
  have HH := hid h
  have HB := hid h.lt
  have HRV := hid hr
  have HR := hid (show RdV w v ((l.map Int.ofNat).map iw) by rw [iv_map]; exact hr)
  have HO := hid ho
  have HL := hid hl
  have HS := hid hs
  have HF := hid hf
  have HJ := hid hj2
  have hr8 := h.r8
  have hn16 := h.n16
  have hii : (i : Int) < 8 := by omega
  have hy1 : ((j : Int) == 0) = false := by simp; omega
  have hy2 : decide ((j : Int) = 0) = false := by simp; omega
  clear h hr hl hj hs hf ho hj2
  go_enter Try.func17, Try.ntmps17
  go_wp2_with (first
    | (go_at_call 40; refine (hasrow_yes w b m i HH.out hi).mono ?_; rintro e w' ⟨rfl, rfl⟩)
    | (go_at_call 41; refine (rising_any w b m v _ HH.out HR.out).mono ?_; rintro e w' ⟨rfl, rfl⟩; rw [show (okNodes m.n (-1) (l.map Int.ofNat) && decide (0 < (l.map Int.ofNat).length)) = true from HL.out])
    | (go_at_call 35; refine (stands_any w b m j HH.out).mono ?_; rintro e w1 ⟨rfl, hb1⟩; rw [HS.out, Option.isSome_none]; have HB1 := hid hb1; clear hb1)
    | (go_at_call 42; refine (goes_any w1 b (2 + i * 16) (fun n => m.c (16 * i + n)) v l (fun n hn => by have := (HH.out.below HB1.out HB.out).cc (16 * i + n) (by omega); rwa [show 2 + (16 * i + n) = 2 + i * 16 + n by omega] at this) (HRV.out.all HB1.out) (fun n hn => by have := HL.out.lt n hn; omega)).mono ?_; rintro e w2 ⟨rfl, rfl⟩; rw [show (l.all fun n => m.c (16 * i + n) == 0) = true from HF.out])
    | (go_at_call 37; refine (set_any w1 b (2 + i * 16) m.cells _ v l j (HH.out.below HB1.out HB.out).blk (by rw [Mx.cells_length]; omega) (HRV.out.all HB1.out) HO.out (fun n hn => by have := HL.out.lt n hn; omega)).mono ?_; rintro e w3 ⟨⟨u, rfl⟩, hw3⟩; have HW3 := hid hw3; clear hw3)
    | fail)
  go_ret
  have hm3 := (HH.out.below HB1.out HB.out).stand i j (by omega) HJ.out l (fun n hn => by have := HL.out.lt n hn; omega)
  rw [show 2 + i * 16 = 2 + i * 16 from rfl, ← HW3.out] at hm3
  have hk3 := setAll_keeps w1 b (2 + i * 16) l j
  rw [← HW3.out] at hk3
  exact ⟨rfl, hm3, (Keeps.of_below HB1.out (fun i hi hge => absurd hi (by omega))).trans hk3⟩

end Go.Proofs.Ytdongghjchnpbaa
