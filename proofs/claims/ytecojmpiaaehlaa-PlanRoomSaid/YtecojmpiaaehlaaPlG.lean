/-
  Contracts of plan: a profile's reserve.
-/
import Derived.Test.YtecojmpiaaehlaaPlF
import Derived.Deep.QuietTactic
import Derived.BigQuiet
namespace Go.Proofs.Ytecojmpiaaehlaa
open Go.RowKit Go.Shelf
set_option linter.unusedVariables false

/-- The slice reads as these values; if there are none it may lie anywhere. -/
def RdW (w : World) (v : Value) (xs : List Value) : Prop :=
  ∃ a cap, v = .slice a xs.length cap ∧ xs.length ≤ cap ∧ cap ≤ 9223372036854775807 ∧ ∀ (j : Nat) (x : Value), xs[j]? = some x → ∃ b off, a = some ⟨b, off, none⟩ ∧ b < w.heap.size ∧ w.cell? ⟨b, off + j, none⟩ = some x
theorem RdV.weak {w : World} {v : Value} {xs : List Value} (h : RdV w v xs) : RdW w v xs := by
  obtain ⟨a, cap, rfl, h1, h2⟩ := h.len
  refine ⟨a, cap, rfl, h1, h2, fun j x hj => ?_⟩
  obtain ⟨-, b, off, h3, h4, h5⟩ := h.at j x hj
  exact ⟨b, off, h3, h4, h5⟩
theorem RdW.all {w w' : World} {v : Value} {xs : List Value} (h : RdW w v xs) (hb : Below w.heap.size w w') : RdW w' v xs := by
  obtain ⟨a, cap, rfl, h1, h2, h3⟩ := h
  refine ⟨a, cap, rfl, h1, h2, fun j x hj => ?_⟩
  obtain ⟨b, off, h4, h5, h6⟩ := h3 j x hj
  exact ⟨b, off, h4, by have := hb.size; omega, (hb.cell (p := ⟨b, off + j, none⟩) h5).trans h6⟩
theorem RdW.len {w : World} {v : Value} {xs : List Value} (h : RdW w v xs) : ∃ a cap, v = .slice a xs.length cap ∧ xs.length ≤ cap ∧ cap ≤ 9223372036854775807 := by
  obtain ⟨a, cap, rfl, h1, h2, h3⟩ := h
  exact ⟨a, cap, rfl, h1, h2⟩
theorem RdW.at {w : World} {a : Option Addr} {n cap : Nat} {xs : List Value} (h : RdW w (.slice a n cap) xs) (k : Nat) (x : Value) (hk : xs[k]? = some x) : ∃ b off, a = some ⟨b, off, none⟩ ∧ b < w.heap.size ∧ w.cell? ⟨b, off + k, none⟩ = some x := by
  obtain ⟨a', cap', e, h1, h2, h3⟩ := h
  simp only [Value.slice.injEq] at e
  obtain ⟨rfl, -, -⟩ := e
  exact h3 k x hk

theorem setI_snoc (l : List Nat) (ns : List Int) (n : Int) (e : Nat) : setI l (ns ++ [n]) e = if 0 ≤ n ∧ n < (setI l ns e).length then (setI l ns e).set n.toNat e else setI l ns e := by
  unfold setI
  rw [List.foldl_append]
  rfl
theorem setI_len (l : List Nat) (e : Nat) : ∀ ns : List Int, (setI l ns e).length = l.length := by
  intro ns
  unfold setI
  induction ns generalizing l with
  | nil => rfl
  | cons n ns ih =>
    rw [List.foldl_cons, ih]
    split
    · simp
    · rfl
theorem resI_no {p : List (List Nat)} {ok : Bool} {at_ row : Int} {ns : List Int} {len : Int} (h : ok = false ∨ row < 0 ∨ (p.length : Int) ≤ row) : resI p ok at_ row ns len = p := by
  unfold resI
  rw [if_neg]
  rintro ⟨h1, h2, h3⟩
  rcases h with h | h | h
  · rw [h] at h1; cases h1
  · omega
  · omega
theorem resI_yes {p : List (List Nat)} {at_ : Int} {i : Nat} {ns : List Int} {len : Int} {l : List Nat} (h : p[i]? = some l) : resI p true at_ i ns len = p.set i (setI l ns (addT at_ (max len 1))) := by
  have hi := (List.getElem?_eq_some_iff.1 h).1
  unfold resI
  rw [if_pos ⟨rfl, by omega, by omega⟩, Int.toNat_natCast, List.getD_eq_getElem?_getD, h]
  rfl

theorem PfAt.put {w : World} {lo bc : Nat} {g : Nat → Nat} {p : List (List Nat)} {i q e : Nat} {l : List Nat} (h : PfAt w lo bc g p) (hl : p[i]? = some l) (hq : q < l.length) (he : e ≤ topN) : PfAt (w.setCell ⟨g i, q, none⟩ (.int .i64 (e : Nat))) lo bc g (p.set i (l.set q e)) := by
  have hi := (List.getElem?_eq_some_iff.1 hl).1
  have ho : ∀ b, b ≠ g i → (w.setCell ⟨g i, q, none⟩ (.int .i64 (e : Nat))).heap[b]? = w.heap[b]? := fun b hb => Below.heap_setCell _ _ _ _ hb
  have hmem : ∀ x ∈ l.set q e, x ∈ l ∨ x = e := fun x hx => (List.mem_or_eq_of_mem_set hx)
  refine ⟨?_, fun j r hj => ?_, fun a b ha hb => h.inj a b (by simpa using ha) (by simpa using hb), h.lob, fun j hj => h.log j (by simpa using hj), by simpa using h.len, fun r hr => ?_, fun r hr x hx => ?_⟩
  · obtain ⟨z, h1, h2⟩ := h.rows
    refine ⟨z, (ho _ (Ne.symm (h.ne i hi))).trans h1, fun j r hj => ?_⟩
    by_cases e2 : j = i
    · subst e2
      rw [set_get hi] at hj
      cases hj
      rw [List.length_set]
      exact h2 j l hl
    · rw [List.getElem?_set_ne (Ne.symm e2)] at hj
      exact h2 j r hj
  · by_cases e2 : j = i
    · subst e2
      rw [set_get hi] at hj
      cases hj
      obtain ⟨z, h1, h2⟩ := h.cells j l hl
      refine ⟨_, heap_setCell_arr _ _ _ _ _ _ _ h1, fun k x hx => ?_⟩
      have hqz := (Array.getElem?_eq_some_iff.1 (h2 q _ (List.getElem?_eq_getElem hq))).1
      by_cases e3 : q = k
      · subst e3
        rw [List.getElem?_set_self hq] at hx
        cases hx
        rw [Array.getElem?_setIfInBounds_self, if_pos hqz]
        rfl
      · rw [List.getElem?_set_ne e3] at hx
        rw [Array.getElem?_setIfInBounds_ne e3]
        exact h2 k x hx
    · rw [List.getElem?_set_ne (Ne.symm e2)] at hj
      obtain ⟨z, h1, h2⟩ := h.cells j r hj
      refine ⟨z, (ho _ fun e3 => e2 (h.inj j i (List.getElem?_eq_some_iff.1 hj).1 hi e3)).trans h1, h2⟩
  · rcases List.mem_or_eq_of_mem_set hr with hr | rfl
    · exact h.rlen r hr
    · rw [List.length_set]; exact h.rlen l (List.mem_of_getElem? hl)
  · rcases List.mem_or_eq_of_mem_set hr with hr | rfl
    · exact h.tl r hr x hx
    · rcases hmem x hx with hx | rfl
      · exact h.tl l (List.mem_of_getElem? hl) x hx
      · exact he

/-- A call that leaves the world alone, inside a region that draws. -/
theorem quiet_first {P : Program} {f : FuncId} {args : Array Value} {w : World} {n : Nat} {v : Value} (h : Calls P f args (w.drewN n) fun e w' => e = .returned v ∧ w.drewN n = w') :
    Calls P f args (w.drewN n) fun e w' => e = .returned v ∧ ∃ m, w' = w.drewN m :=
  h.mono fun _ _ h => ⟨h.1, n, h.2.symm⟩

theorem take_snoc_i {l : List Int} {k : Nat} {x : Int} (h : l[k]? = some x) : l.take (k + 1) = l.take k ++ [x] := by
  rw [List.take_add_one, h]; rfl

set_option maxRecDepth 100000 in
set_option maxHeartbeats 1000000 in
theorem reserve_any (w : World) (lo bc : Nat) (g : Nat → Nat) (p : List (List Nat)) (at_ row len : Int) (ns : List Int) (ok : Bool) (u : Value) (h : PfAt w lo bc g p) (hu : RdW w u (ns.map iw)) (hnl : ns.length ≤ 1000)
    (hoff : ns ≠ [] → ∀ b o n c, u = .slice (some ⟨b, o, none⟩) n c → ∀ i, i < p.length → b ≠ g i) :
    Calls Try.prog 30 #[.slice (some ⟨bc, 0, none⟩) p.length p.length, .agg #[.int .i64 at_, .int .i64 row, u, .bool ok], .int .i64 len] w fun e w' => e = .returned (.tuple #[]) ∧ PfAt w' lo bc g (resI p ok at_ row ns len) ∧ Keeps (fun b => ∃ i, i < p.length ∧ b = g i) w w' := by
  obtain ⟨ua, uc, rfl, hu1, hu2⟩ := hu.len
  rw [List.length_map] at hu hu1
  have hpl := h.len
  have HP := hid h
  have HU := hid hu
  have HO := hid hoff
  have hbcl := h.bcl
  clear h hu hoff
  rw [List.length_map]
  have HB1 := hid (show Below w.heap.size w (w.alloc (.cells #[.int .i64 at_, .int .i64 row, .slice ua ns.length uc, .bool ok] 32)) from (Below.refl _ w).alloc (Nat.le_refl _) _)
  have HKK := hid (show Keeps (fun b => ∃ i, i < p.length ∧ b = g i) w (w.alloc (.cells #[.int .i64 at_, .int .i64 row, .slice ua ns.length uc, .bool ok] 32)) from Keeps.of_below HB1.out fun i hi hge => absurd hi (by omega))
  by_cases hok : ok = false
  · subst hok
    have HE := hid (resI_no (p := p) (at_ := at_) (row := row) (ns := ns) (len := len) (.inl rfl))
    go_enter Try.func30, Try.ntmps30
    go_wp2_with fail
    refine bodyPost_ret (results_none rfl _ _ _) rfl ?_
    exact ⟨rfl, by rw [HE.out]; exact HP.out.below HB1.out (Nat.le_refl _), HKK.out⟩
  obtain rfl : ok = true := by simpa using hok
  clear hok
  by_cases hr0 : row < 0
  · have HE := hid (resI_no (p := p) (ok := true) (at_ := at_) (ns := ns) (len := len) (.inr (.inl hr0)))
    have d1 : decide (row < 0) = true := by simpa using hr0
    clear hr0
    go_enter Try.func30, Try.ntmps30
    go_wp2_with fail
    refine bodyPost_ret (results_none rfl _ _ _) rfl ?_
    exact ⟨rfl, by rw [HE.out]; exact HP.out.below HB1.out (Nat.le_refl _), HKK.out⟩
  by_cases hr1 : (p.length : Int) ≤ row
  · have HE := hid (resI_no (p := p) (ok := true) (at_ := at_) (ns := ns) (len := len) (.inr (.inr hr1)))
    have d1 : decide (row < 0) = false := by simpa using hr0
    have d2 : decide (row ≥ (p.length : Int)) = true := by simpa using hr1
    have d3 : decide ((p.length : Int) ≤ row) = true := by simpa using hr1
    clear hr0 hr1
    go_enter Try.func30, Try.ntmps30
    go_wp2_with fail
    refine bodyPost_ret (results_none rfl _ _ _) rfl ?_
    exact ⟨rfl, by rw [HE.out]; exact HP.out.below HB1.out (Nat.le_refl _), HKK.out⟩
  obtain ⟨i, rfl⟩ : ∃ i : Nat, row = (i : Int) := ⟨row.toNat, by omega⟩
  have hi : i < p.length := by omega
  obtain ⟨l, hl⟩ : ∃ l, p[i]? = some l := ⟨_, List.getElem?_eq_getElem hi⟩
  have hll := HP.out.rlen l (List.mem_of_getElem? hl)
  have HE := hid (resI_yes (at_ := at_) (ns := ns) (len := len) hl)
  obtain ⟨E, hE⟩ : ∃ E, E = addT at_ (max len 1) := ⟨_, rfl⟩
  have hEt : E ≤ topN := by rw [hE]; exact addT_le _ _
  have HET := hid hEt
  have HAD := hid (fun W => addt_any at_ (max len 1) W)
  have d1 : decide ((i : Int) < 0) = false := by simp
  have d2 : decide ((i : Int) ≥ (p.length : Int)) = false := by simp; omega
  have d3 : decide ((p.length : Int) ≤ (i : Int)) = false := by simp; omega
  have d4 : decide (p.length ≤ i) = false := by simp; omega
  have hii : (i : Int) < (p.length : Int) := by omega
  have HL := hid hl
  rw [← hE] at HE HAD
  clear hE hEt hr0 hr1 hl
  go_enter Try.func30, Try.ntmps30
  go_wp2_with fail
  obtain ⟨w1, hw1⟩ : ∃ w1, w1 = w.alloc (.cells #[.int .i64 at_, .int .i64 (i : Nat), .slice ua ns.length uc, .bool true] 32) := ⟨_, rfl⟩
  have hk1 : w1.heap[w.heap.size]? = some (.cells #[.int .i64 at_, .int .i64 (i : Nat), .slice ua ns.length uc, .bool true] 32 (0, 0)) := by rw [hw1]; exact heap_alloc_new w _
  have hs1 : w1.heap.size = w.heap.size + 1 := by rw [hw1]; simp
  rw [← hw1] at HB1 HKK ⊢
  have e0 : w1.cell? ⟨w.heap.size, 0, none⟩ = some (.int .i64 at_) := (cell_of_row w1 _ _ _ _ _ hk1).trans rfl
  have e1 : w1.cell? ⟨w.heap.size, 1, none⟩ = some (.int .i64 (i : Nat)) := (cell_of_row w1 _ _ _ _ _ hk1).trans rfl
  have e2 : w1.cell? ⟨w.heap.size, 2, none⟩ = some (.slice ua ns.length uc) := (cell_of_row w1 _ _ _ _ _ hk1).trans rfl
  have hP1 := HP.out.below HB1.out (Nat.le_refl _)
  have r0 : w1.cell? ⟨bc, i, none⟩ = some (.slice (some ⟨g i, 0, none⟩) l.length l.length) := hP1.row i l HL.out
  have HK1 := hid hk1
  have HP1 := hid hP1
  clear hw1 hk1 hP1
  go_quiet ((first | (go_at_call 35; exact quiet_first (HAD.out _)) | fail))
  go_wp2_with fail
  go_loopw [38] (fun j wr => ∃ k : Nat, k ≤ ns.length ∧ j = .int .i64 k ∧ PfAt wr lo bc g (p.set i (setI l (ns.take k) E)) ∧ Keeps (fun b => ∃ i, i < p.length ∧ b = g i) w wr) (fun j _ => ns.length - (intOf j).toNat)
  case atStart => exact ⟨0, Nat.zero_le _, rfl, by
    have : p.set i (setI l (ns.take 0) E) = p := by
      rw [List.take_zero]
      exact set_same HL.out
    rw [this]; exact HP1.out.to rfl (fun _ _ => rfl), ⟨HKK.out.os, HKK.out.tape, HKK.out.output, HKK.out.size, HKK.out.block⟩⟩
  case round =>
    obtain ⟨k, hk, rfl, hP, hK⟩ := hrel
    have HPK := hid hP
    have HK := hid hK
    by_cases hlt : k < ns.length
    · obtain ⟨n, hn⟩ : ∃ n, ns[k]? = some n := ⟨_, List.getElem?_eq_getElem hlt⟩
      obtain ⟨b, off, rfl, hbl, hcell⟩ := HU.out.at k (iw n) (by rw [List.getElem?_map, hn]; rfl)
      have hcell2 : wr.cell? ⟨b, off + k, none⟩ = some (.int .i64 n) := (hK.cell (p := ⟨b, off + k, none⟩) hbl (by
        rintro ⟨j, hj, e⟩
        exact HO.out (fun e0 => by rw [e0] at hlt; exact absurd hlt (Nat.not_lt_zero _)) b off _ _ rfl j hj e)).trans hcell
      have HT := hid (take_snoc_i hn)
      have HSN := hid (setI_snoc l (ns.take k) n E)
      have HSL := hid (setI_len l E (ns.take k))
      have hki : (k : Int) < (ns.length : Int) := by omega
      clear hcell hP hK hn
      by_cases hn0 : 0 ≤ n
      · obtain ⟨m, rfl⟩ := Int.eq_ofNat_of_zero_le hn0
        by_cases hm : m < l.length
        · have c1 : decide ((m : Int) ≥ 0) = true := decide_eq_true (by omega)
          have c2 : decide ((0 : Int) ≤ (m : Int)) = true := decide_eq_true (by omega)
          have c3 : decide ((m : Int) < (l.length : Int)) = true := decide_eq_true (by omega)
          have c4 : decide (m < l.length) = true := decide_eq_true hm
          have hmi : (m : Int) < (l.length : Int) := by omega
          have hpi : (p.set i (setI l (ns.take k) E))[i]? = some (setI l (ns.take k) E) := set_get hi
          obtain ⟨z, hz1, hz2⟩ := HPK.out.cells i _ hpi
          have hm2 : m < (setI l (ns.take k) E).length := by rw [HSL.out]; exact hm
          have h1 : wr.cell? ⟨g i, m, none⟩ = some (iv ((setI l (ns.take k) E)[m])) := by
            rw [cell_of_row _ _ _ _ _ _ hz1]
            exact hz2 m _ (List.getElem?_eq_getElem hm2)
          have f1 : wr.frozen? ⟨g i, m, none⟩ = false := frozen_of_row _ _ _ _ _ hz1
          have HP5 := hid (HPK.out.put hpi hm2 HET.out)
          have HE5 := hid (show p.set i (setI l (ns.take (k + 1)) E) = (p.set i (setI l (ns.take k) E)).set i ((setI l (ns.take k) E).set m E) by
            rw [List.set_set, HT.out, HSN.out, if_pos ⟨by omega, by omega⟩]
            rfl)
          have HK5 := hid (HK.out.setCell (p := ⟨g i, m, none⟩) (fun _ => ⟨i, hi, rfl⟩) (.int .i64 (E : Nat)))
          unfold iv at h1
          generalize (setI l (ns.take k) E)[m] = old at h1
          clear hz1 hz2 hpi hm2 hm hn0
          go_wp2
          go_roundw
          case rel => exact ⟨k + 1, hlt, by go_num, by rw [HE5.out]; exact HP5.out, HK5.out⟩
          case measure => simp [intOf]; omega
        · have c1 : decide ((m : Int) ≥ 0) = true := decide_eq_true (by omega)
          have c2 : decide ((0 : Int) ≤ (m : Int)) = true := decide_eq_true (by omega)
          have c3 : decide ((m : Int) < (l.length : Int)) = false := decide_eq_false (by omega)
          have c4 : decide (m < l.length) = false := decide_eq_false hm
          have HE5 := hid (show setI l (ns.take (k + 1)) E = setI l (ns.take k) E by rw [HT.out, HSN.out, if_neg (by rw [HSL.out]; omega)])
          clear hm hn0
          go_wp2
          go_roundw
          case rel => exact ⟨k + 1, hlt, by go_num, by rw [HE5.out]; exact HPK.out, HK.out⟩
          case measure => simp [intOf]; omega
      · have c1 : decide (n ≥ 0) = false := decide_eq_false (by omega)
        have c2 : decide (0 ≤ n) = false := decide_eq_false (by omega)
        have HE5 := hid (show setI l (ns.take (k + 1)) E = setI l (ns.take k) E by rw [HT.out, HSN.out, if_neg (by omega)])
        clear hn0
        go_wp2
        go_roundw
        case rel => exact ⟨k + 1, hlt, by go_num, by rw [HE5.out]; exact HPK.out, HK.out⟩
        case measure => simp [intOf]; omega
    · have e : k = ns.length := by omega
      have hki : ¬ (k : Int) < (ns.length : Int) := by omega
      have hp5 := HPK.out
      rw [e, List.take_length] at hp5
      have HP5 := hid hp5
      clear hp5 hP hK e hlt
      go_wp2
      go_end0
      exact ⟨rfl, by rw [HE.out]; exact HP5.out, HK.out⟩

end Go.Proofs.Ytecojmpiaaehlaa
