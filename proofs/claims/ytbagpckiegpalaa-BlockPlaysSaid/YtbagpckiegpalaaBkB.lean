/-
  Layer 6: which block is a root; Load.
-/
import Derived.Test.YtbagpckiegpalaaBkA
import Derived.StillTailTactics
namespace Go.Proofs.Ytbagpckiegpalaa
open Go.RowKit
set_option linter.unusedVariables false
set_option linter.unusedSimpArgs false

set_option maxHeartbeats 2000000 in
theorem isroot_any (B : Blk) (a : Option Addr) (n c : Nat) (i : Nat) (w : World) (h : Rd w (.slice a n c) B.data) (hl : B.data.length = n) (hi : i < 2) :
    Calls Try.prog 43 #[B.val (.slice a n c), .int .i64 (i : Int)] w fun e w' => e = .returned (.bool (B.isRoot i)) ∧ Below w.heap.size w w' := by
  obtain ⟨kn, hkn⟩ : ∃ k, k = B.kind.toNat := ⟨_, rfl⟩
  obtain ⟨en, hen⟩ : ∃ k, k = B.epoch.toNat := ⟨_, rfl⟩
  obtain ⟨xn, hxn⟩ : ∃ k, k = B.a.toNat := ⟨_, rfl⟩
  obtain ⟨yn, hyn⟩ : ∃ k, k = B.b.toNat := ⟨_, rfl⟩
  obtain ⟨an, han⟩ : ∃ k, k = (B.data.getD 0 0).toNat := ⟨_, rfl⟩
  have hk1 : decide (B.kind = 1) = decide (kn = 1) := by
    rw [hkn]
    congr 1
    exact propext ⟨fun e => by rw [e]; rfl, fun e => UInt8.toNat_inj.1 e⟩
  have HE := hid (show B.isRoot i = (decide (kn = 1) && (decide (n = 1) && (decide (an < 2) && decide (xn % 2 = i)))) by unfold Blk.isRoot; rw [hk1, hl, ← han, ← hxn])
  have hxl : xn < 4294967296 := by rw [hxn]; exact B.a.isLt
  unfold Blk.val
  rw [← hkn, ← hen, ← hxn, ← hyn]
  obtain ⟨w1, hw1⟩ : ∃ z, z = w.alloc (.cells #[.int .u8 (kn : Int), .int .u32 (en : Int), .int .u32 (xn : Int), .int .u32 (yn : Int), .slice a n c] 40) := ⟨_, rfl⟩
  have HB1 := hid (show Below w.heap.size w w1 by rw [hw1]; exact (Below.refl _ _).alloc (Nat.le_refl _) _)
  have hg1 : w1.heap[w.heap.size]? = some (.cells #[.int .u8 (kn : Int), .int .u32 (en : Int), .int .u32 (xn : Int), .int .u32 (yn : Int), .slice a n c] 40 (0, 0)) := by rw [hw1]; exact heap_alloc_new _ _
  obtain ⟨⟨m0, m1, m2, m3, m4⟩, -, -, -, -, -⟩ := zero5 hg1
  have HQ1 := hid hw1
  have HR1 := hid (h.below HB1.out)
  obtain ⟨m, hm⟩ : ∃ m, m = xn % 2 := ⟨_, rfl⟩
  have HRS := hid (fun W => show Calls Try.prog 42 #[.int .u32 (xn : Int)] W (fun e w' => e = .returned (.int .i64 (m : Int)) ∧ W = w') from by rw [hm]; exact rootsector_any xn W hxl)
  rw [← hm] at HE
  have HDL := hid hl
  have HAN := hid han
  clear h hl hkn hen hxn hyn han hk1 hw1 hg1 hm hxl hi
  by_cases hk : kn = 1
  · have hkb : ((kn : Int) == 1) = true := by simp [hk]
    have HK := hid hk
    clear hk
    by_cases hn : n = 1
    · subst hn
      obtain ⟨g, off, cp, e, h1, h2, hgl, hcl⟩ := HR1.out.pos (by rw [HDL.out]; omega)
      simp only [Value.slice.injEq] at e
      obtain ⟨rfl, -, rfl⟩ := e
      have c0 := hcl 0 (by rw [HDL.out]; omega)
      rw [bv_eq, ← HAN.out, Nat.add_zero] at c0
      clear h1 h2 hgl hcl
      by_cases ha : an < 2
      · have hab : decide ((an : Int) < 2) = true := decide_eq_true (by omega)
        have HA := hid ha
        clear ha
        by_cases hi : m = i
        · have hib : ((m : Int) == (i : Int)) = true := by simp [hi]
          have HI := hid hi
          clear hi
          go_enter Try.func43, Try.ntmps43
          go_upto_region 1 with fail
          rw [← HQ1.out]
          go_wp2_with (first | (go_at_call 42; refine (HRS.out w1).mono ?_; rintro e w2 ⟨rfl, rfl⟩) | fail)
          go_ret
          exact ⟨by rw [show B.isRoot i = true from HE.out.trans (by simp [HK.out, HA.out, HI.out])]; rfl, HB1.out⟩
        · have hib : ((m : Int) == (i : Int)) = false := by simp; omega
          have HI := hid hi
          clear hi
          go_enter Try.func43, Try.ntmps43
          go_upto_region 1 with fail
          rw [← HQ1.out]
          go_wp2_with (first | (go_at_call 42; refine (HRS.out w1).mono ?_; rintro e w2 ⟨rfl, rfl⟩) | fail)
          go_ret
          exact ⟨by rw [show B.isRoot i = false from HE.out.trans (by simp [HK.out, HA.out, HI.out])]; rfl, HB1.out⟩
      · have hab : decide ((an : Int) < 2) = false := decide_eq_false (by omega)
        have HA := hid ha
        clear ha
        go_enter Try.func43, Try.ntmps43
        go_upto_region 1 with fail
        rw [← HQ1.out]
        go_wp2_with fail
        go_ret
        exact ⟨by rw [show B.isRoot i = false from HE.out.trans (by simp [HK.out, HA.out])]; rfl, HB1.out⟩
    · have hnb : ((n : Int) == 1) = false := by simp; omega
      have HN := hid hn
      clear hn
      go_enter Try.func43, Try.ntmps43
      go_upto_region 1 with fail
      rw [← HQ1.out]
      go_wp2_with fail
      go_ret
      exact ⟨by rw [show B.isRoot i = false from HE.out.trans (by simp [HK.out, HN.out])]; rfl, HB1.out⟩
  · have hkb : ((kn : Int) == 1) = false := by simp; omega
    have HK := hid hk
    clear hk
    go_enter Try.func43, Try.ntmps43
    go_upto_region 1 with fail
    rw [← HQ1.out]
    go_wp2_with fail
    go_ret
    exact ⟨by rw [show B.isRoot i = false from HE.out.trans (by simp [HK.out])]; rfl, HB1.out⟩

/-- The root that a sector has, if it has one. -/
def rootOf (p : List UInt8) (i : Nat) : Option Rt := if (said p).1 = 0 ∧ (said p).2.isRoot i = true then some (said p).2.rt else none
def pickR (best x : Option Rt) : Option Rt :=
  match x with
  | none => best
  | some r => match best with
    | none => some r
    | some b => if b.turn.toNat < r.turn.toNat then some r else some b
def stOf (s : Sl) : Nat → Option Rt
  | 0 => none
  | j + 1 => pickR (stOf s j) (rootOf (s.read (j : Int)).1 j)
def outR : Option Rt → Rt × Int
  | none => (Rt.zero, 4)
  | some r => (r, 0)
def Sl.loadb (s : Sl) : Rt × Int :=
  if (s.read 0).2 ≠ 0 then (Rt.zero, (s.read 0).2) else if (s.read 1).2 ≠ 0 then (Rt.zero, (s.read 1).2)
  else outR (stOf s 2)

abbrev rcelR (r : Rt) : Array Value := #[.int .u32 (r.turn.toNat : Int), .int .u32 (r.epoch.toNat : Int), .int .u32 (r.gen.toNat : Int), .int .u8 (r.area.toNat : Int)]

theorem zero4 {w : World} {g : Nat} {A B C D : Value} {t : TypeId} (h : w.heap[g]? = some (.cells #[A, B, C, D] t (0, 0))) :
    (w.cell? ⟨g, 0, none⟩ = some A ∧ w.cell? ⟨g, 1, none⟩ = some B ∧ w.cell? ⟨g, 2, none⟩ = some C ∧ w.cell? ⟨g, 3, none⟩ = some D) ∧
    w.frozen? ⟨g, 0, none⟩ = false ∧ w.frozen? ⟨g, 1, none⟩ = false ∧ w.frozen? ⟨g, 2, none⟩ = false ∧ w.frozen? ⟨g, 3, none⟩ = false :=
  ⟨⟨(cell_of_row w _ _ _ _ _ h).trans rfl, (cell_of_row w _ _ _ _ _ h).trans rfl, (cell_of_row w _ _ _ _ _ h).trans rfl, (cell_of_row w _ _ _ _ _ h).trans rfl⟩,
    frozen_of_row _ _ _ _ _ h, frozen_of_row _ _ _ _ _ h, frozen_of_row _ _ _ _ _ h, frozen_of_row _ _ _ _ _ h⟩
abbrev set4R (w : World) (g : Nat) (A B C D : Value) : World := (((w.setCell ⟨g, 0, none⟩ A).setCell ⟨g, 1, none⟩ B).setCell ⟨g, 2, none⟩ C).setCell ⟨g, 3, none⟩ D
theorem set4_below {w w' : World} {g n : Nat} {A B C D : Value} (h : Below n w w') (hg : n ≤ g) : Below n w (set4R w' g A B C D) :=
  (((h.setCell (p := ⟨g, 0, none⟩) hg A).setCell (p := ⟨g, 1, none⟩) hg B).setCell (p := ⟨g, 2, none⟩) hg C).setCell (p := ⟨g, 3, none⟩) hg D
theorem set4_keeps (w : World) (g : Nat) (A B C D : Value) : Keeps (fun k => k = g) w (set4R w g A B C D) :=
  ((((Keeps.refl (fun k => k = g) w).setCell (p := ⟨g, 0, none⟩) (fun _ => rfl) A).setCell (p := ⟨g, 1, none⟩) (fun _ => rfl) B).setCell (p := ⟨g, 2, none⟩) (fun _ => rfl) C).setCell (p := ⟨g, 3, none⟩) (fun _ => rfl) D
theorem set4_heap {w : World} {g : Nat} {a b c d A B C D : Value} {t : TypeId} (h : w.heap[g]? = some (.cells #[a, b, c, d] t (0, 0))) : (set4R w g A B C D).heap[g]? = some (.cells #[A, B, C, D] t (0, 0)) := by
  have h1 := fun (w : World) (k : Nat) (u : Value) (cs : Array Value) (hh : w.heap[g]? = some (.cells cs t (0, 0))) => setCell_heapS w g k cs t (0, 0) u hh
  rw [h1 _ _ _ _ (h1 _ _ _ _ (h1 _ _ _ _ (h1 _ _ _ _ h)))]; simp

set_option maxRecDepth 100000 in
set_option maxHeartbeats 8000000 in
theorem load_any (base b bn bd : Nat) (wv : Value) (s : Sl) (w : World) (h : SlabAt w base b bn bd wv s) :
    Calls Try.prog 19 #[.pointer (some ⟨b, 0, none⟩)] w fun e w' => e = .returned (.tuple #[s.loadb.1.val, .int .i64 s.loadb.2]) ∧ Below w.heap.size w w' := by
  obtain ⟨g0, hg0⟩ : ∃ g, g = w.heap.size := ⟨_, rfl⟩
  obtain ⟨g1, hg1⟩ : ∃ g, g = w.heap.size + 1 := ⟨_, rfl⟩
  obtain ⟨w1, hw1⟩ : ∃ z, z = (w.alloc (.cells #[.int .u32 0, .int .u32 0, .int .u32 0, .int .u8 0] 48)).alloc (.cells #[.int .u32 0, .int .u32 0, .int .u32 0, .int .u8 0] 48) := ⟨_, rfl⟩
  have hba : Below w.heap.size w (w.alloc (.cells #[.int .u32 0, .int .u32 0, .int .u32 0, .int .u8 0] 48)) := (Below.refl _ _).alloc (Nat.le_refl _) _
  have hsa : (w.alloc (.cells #[.int .u32 0, .int .u32 0, .int .u32 0, .int .u8 0] 48)).heap.size = g1 := by rw [hg1]; simp
  have hbb : Below (w.alloc (.cells #[.int .u32 0, .int .u32 0, .int .u32 0, .int .u8 0] 48)).heap.size (w.alloc (.cells #[.int .u32 0, .int .u32 0, .int .u32 0, .int .u8 0] 48)) w1 := by rw [hw1]; exact (Below.refl _ _).alloc (Nat.le_refl _) _
  have HB1 := hid (hba.trans (hbb.mono hba.size))
  have HA1 := hid (show w1.heap[g0]? = some (.cells #[.int .u32 0, .int .u32 0, .int .u32 0, .int .u8 0] 48 (0, 0)) from (hbb.block g0 (by rw [hg0]; simp)).trans (by rw [hg0]; exact heap_alloc_new _ _))
  have HL1 := hid (show w1.heap[g1]? = some (.cells #[.int .u32 0, .int .u32 0, .int .u32 0, .int .u8 0] 48 (0, 0)) by rw [hw1, ← hsa]; exact heap_alloc_new _ _)
  have HGG := hid (show w.heap.size ≤ g0 ∧ w.heap.size ≤ g1 ∧ g0 ≠ g1 by omega)
  have H0 := hid h
  have HQ := hid hw1
  have HQ0 := hid hg0
  have HQ1 := hid hg1
  have HZ4 := hid (show (Try.prog.info? 48).map (·.size) = some 4 by kernel_rfl)
  clear h hba hsa hbb hw1 hg0 hg1
  go_enter Try.func19, Try.ntmps19
  go_upto_region 3 with fail
  rw [← HQ1.out, ← HQ0.out, ← HQ.out]
  go_wp2_with fail
  go_loopw [5, 10] (fun u i wr => ∃ (j : Nat), j ≤ 2 ∧ u = .bool (stOf s j).isSome ∧ i = .int .i64 j ∧ (∀ k, k < j → (s.read (k : Int)).2 = 0) ∧ wr.heap[g0]? = some (.cells #[.int .u32 0, .int .u32 0, .int .u32 0, .int .u8 0] 48 (0, 0)) ∧ wr.heap[g1]? = some (.cells (rcelR ((stOf s j).getD Rt.zero)) 48 (0, 0)) ∧ Below w.heap.size w wr) (fun _ i _ => 2 - (intOf i).toNat)
  case atStart => exact ⟨0, by omega, rfl, rfl, fun k hk => absurd hk (by omega), HA1.out, HL1.out, HB1.out⟩
  case round =>
    obtain ⟨j, hj, rfl, rfl, hok, ha, hl, hb⟩ := hrel
    have HOK := hid hok
    have HA := hid ha
    have HL := hid hl
    have HB := hid hb
    clear hok ha hl hb
    obtain ⟨st, hst⟩ : ∃ st, st = stOf s j := ⟨_, rfl⟩
    rw [← hst] at HL ⊢
    have HST := hid hst
    clear hst
    by_cases hlt : j < 2
    · have hji : (j : Int) < 2 := by omega
      obtain ⟨rr, hrr⟩ : ∃ r, r = s.read (j : Int) := ⟨_, rfl⟩
      have HRA := hid (read_all base b bn bd wv s (j : Int) wr (H0.out.below HB.out))
      rw [← hrr] at HRA
      have HRR := hid hrr
      clear hrr
      obtain ⟨p, er⟩ := rr
      dsimp only at HRA
      go_upto_region 7 with (first
        | (go_at_call 31; refine (HRA.out).mono ?_; rintro e w2 ⟨v2, rfl, ha2⟩)
        | fail)
      have hb2 := ha2.below
      have HA2 := hid ((hb2.block g0 (Array.getElem?_eq_some_iff.1 HA.out).1).trans HA.out)
      have HL2 := hid ((hb2.block g1 (Array.getElem?_eq_some_iff.1 HL.out).1).trans HL.out)
      have HB2 := hid (HB.out.trans (hb2.mono HB.out.size))
      have HRV := hid ha2.rd
      have HRP := hid (show er = 0 → p.length = 128 by
        intro e
        rcases ha2 with ⟨h, _⟩ | ⟨_, h, _⟩
        · exact absurd e h
        · exact h)
      clear ha2 hb2
      by_cases he : er = 0
      · subst he
        have HE0 := hid (HRP.out rfl)
        have HSD := hid (said_any w2 v2 p HRV.out HE0.out)
        obtain ⟨B, hB⟩ : ∃ B, B = (said p).2 := ⟨_, rfl⟩
        obtain ⟨ec, hec⟩ : ∃ e, e = (said p).1 := ⟨_, rfl⟩
        rw [← hB, ← hec] at HSD
        obtain ⟨kn, hkn⟩ : ∃ k, k = B.kind.toNat := ⟨_, rfl⟩
        obtain ⟨en, hen⟩ : ∃ k, k = B.epoch.toNat := ⟨_, rfl⟩
        obtain ⟨xn, hxn⟩ : ∃ k, k = B.a.toNat := ⟨_, rfl⟩
        obtain ⟨yn, hyn⟩ : ∃ k, k = B.b.toNat := ⟨_, rfl⟩
        obtain ⟨n, hn⟩ : ∃ n, n = B.data.length := ⟨_, rfl⟩
        have HRO := hid (show rootOf (s.read (j : Int)).1 j = if ec = 0 ∧ B.isRoot j = true then some B.rt else none by
          have h := HRR.out
          rw [← h]
          unfold rootOf
          rw [← hB, ← hec])
        have HBV := hid (fun dv => show B.val dv = .agg #[.int .u8 (kn : Int), .int .u32 (en : Int), .int .u32 (xn : Int), .int .u32 (yn : Int), dv] from by unfold Blk.val; rw [hkn, hen, hxn, hyn])
        have HNN := hid hn
        have HXN := hid hxn
        have HEN := hid hen
        have HYN := hid hyn
        clear hB hec hkn hen hxn hyn hn
        go_upto_region 10 with (first
          | (go_at_call 40; refine (HSD.out).mono ?_; rintro e w3 ⟨dv, rfl, ho3, hb3⟩; obtain ⟨ua, uc, rfl⟩ := rd_slice ho3.rd; rw [← HNN.out, HBV.out]; rw [← HNN.out] at ho3)
          | fail)
        obtain ⟨w4, hw4⟩ : ∃ z, z = w3.alloc (.cells #[.int .u8 (kn : Int), .int .u32 (en : Int), .int .u32 (xn : Int), .int .u32 (yn : Int), .slice ua n uc] 40) := ⟨_, rfl⟩
        rw [← hw4]
        obtain ⟨g9, hg9⟩ : ∃ g, g = w3.heap.size := ⟨_, rfl⟩
        rw [← hg9]
        have hb4 : Below w3.heap.size w3 w4 := by rw [hw4]; exact (Below.refl _ _).alloc (Nat.le_refl _) _
        have hb24 := hb3.trans (hb4.mono hb3.size)
        have HA4 := hid ((hb24.block g0 (Array.getElem?_eq_some_iff.1 HA2.out).1).trans HA2.out)
        have HL4 := hid ((hb24.block g1 (Array.getElem?_eq_some_iff.1 HL2.out).1).trans HL2.out)
        have HB4 := hid (HB2.out.trans (hb24.mono HB2.out.size))
        have HG4 := hid (show w4.heap[g9]? = some (.cells #[.int .u8 (kn : Int), .int .u32 (en : Int), .int .u32 (xn : Int), .int .u32 (yn : Int), .slice ua n uc] 40 (0, 0)) by rw [hw4, hg9]; exact heap_alloc_new _ _)
        have HR4 := hid (ho3.rd.below hb4)
        have HG19 := hid (show g1 ≠ g9 by have := (Array.getElem?_eq_some_iff.1 HL2.out).1; have := hb3.size; omega)
        clear hw4 hg9 hb4 hb24 ho3 hb3
        have HOK1 := hid (show ∀ k, k < j + 1 → (s.read (k : Int)).2 = 0 from fun k hk => by
          by_cases e : k < j
          · exact HOK.out k e
          · obtain rfl : k = j := by omega
            rw [← HRR.out])
        have HS1 := hid (show stOf s (j + 1) = pickR st (if ec = 0 ∧ B.isRoot j = true then some B.rt else none) by rw [HST.out, ← HRO.out]; rfl)
        by_cases hec : ec = 0
        · subst hec
          have HIR := hid (fun W (hW : Below w4.heap.size w4 W) => isroot_any B ua n uc j W (HR4.out.below hW) HNN.out.symm hlt)
          obtain ⟨rb, hrb⟩ : ∃ b, b = B.isRoot j := ⟨_, rfl⟩
          rw [← hrb] at HIR HS1
          have HRB := hid hrb
          clear hrb
          obtain ⟨⟨m0, m1, m2, m3, m4⟩, -, -, -, -, -⟩ := zero5 HG4.out
          have HIR4 := hid (HIR.out w4 (Below.refl _ _))
          rw [HBV.out] at HIR4
          cases rb with
          | false =>
            go_wp2_with (first
              | (go_at_call 43; refine (HIR4.out).mono ?_; rintro e w5 ⟨rfl, hb5⟩)
              | fail)
            have HE := hid (show stOf s (j + 1) = st by rw [HS1.out, if_neg (by simp)]; rfl)
            go_roundw
            case rel => exact ⟨j + 1, hlt, by rw [HE.out], by go_num, HOK1.out, (hb5.block g0 (Array.getElem?_eq_some_iff.1 HA4.out).1).trans HA4.out, by rw [HE.out]; exact (hb5.block g1 (Array.getElem?_eq_some_iff.1 HL4.out).1).trans HL4.out, HB4.out.trans (hb5.mono HB4.out.size)⟩
            case measure => simp [intOf]; omega
          | true =>
            have HDT := hid (show B.isRoot j = true from HRB.out.symm)
            obtain ⟨an, han⟩ : ∃ k, k = (B.data.getD 0 0).toNat := ⟨_, rfl⟩
            have hn1 : n = 1 := by
              have h := HDT.out
              unfold Blk.isRoot at h
              simp only [Bool.and_eq_true, decide_eq_true_eq] at h
              rw [HNN.out]; exact h.2.1
            subst hn1
            obtain ⟨gd, off, cp, e, h1, h2, hgl, hcl⟩ := HR4.out.pos (by rw [← HNN.out]; omega)
            simp only [Value.slice.injEq] at e
            obtain ⟨rfl, -, rfl⟩ := e
            have c0 := hcl 0 (by rw [← HNN.out]; omega)
            rw [bv_eq, ← han, Nat.add_zero] at c0
            have HC0 := hid (fun W (hW : Below w4.heap.size w4 W) => (hW.cell (p := ⟨gd, off, none⟩) hgl).trans c0)
            have HAN := hid han
            clear h1 h2 hgl hcl han c0
            cases st with
            | none =>
              go_upto_region 12 with (first
                | (go_at_call 43; refine (HIR4.out).mono ?_; rintro e w5 ⟨rfl, hb5⟩)
                | fail)
              have HE := hid (show stOf s (j + 1) = some B.rt by rw [HS1.out, if_pos (by simp)]; rfl)
              have HA5 := hid ((hb5.block g0 (Array.getElem?_eq_some_iff.1 HA4.out).1).trans HA4.out)
              have HL5 := hid ((hb5.block g1 (Array.getElem?_eq_some_iff.1 HL4.out).1).trans HL4.out)
              have HG5 := hid ((hb5.block g9 (Array.getElem?_eq_some_iff.1 HG4.out).1).trans HG4.out)
              have c0 := HC0.out w5 hb5
              have HB5 := hid (HB4.out.trans (hb5.mono HB4.out.size))
              clear hb5 m0 m1 m2 m3 m4
              obtain ⟨⟨m0, m1, m2, m3, m4⟩, -, -, -, -, -⟩ := zero5 HG5.out
              obtain ⟨⟨q0, q1, q2, q3⟩, f0, f1, f2, f3⟩ := zero4 HL5.out
              go_still_tail 11, (by kernel_rfl)
              change wpList _ _ _ _ _ w5.drew
              go_wp2_with fail
              have HBR := hid (show B.rt.turn.toNat = xn ∧ B.rt.epoch.toNat = en ∧ B.rt.gen.toNat = yn ∧ B.rt.area.toNat = an from ⟨HXN.out.symm, HEN.out.symm, HYN.out.symm, HAN.out.symm⟩)
              go_roundw
              case rel =>
                refine ⟨j + 1, hlt, by rw [HE.out]; rfl, by go_num, HOK1.out, ?_, ?_, set4_below (below_drw HB5.out) HGG.out.2.1⟩
                · exact ((set4_keeps w5.drew g1 _ _ _ _).block g0 (Array.getElem?_eq_some_iff.1 HA5.out).1 HGG.out.2.2).trans HA5.out
                · rw [HE.out]
                  show _ = some (Obj.cells (rcelR B.rt) _ _)
                  rw [show rcelR B.rt = #[.int .u32 (xn : Int), .int .u32 (en : Int), .int .u32 (yn : Int), .int .u8 (an : Int)] by unfold rcelR; rw [HBR.out.1, HBR.out.2.1, HBR.out.2.2.1, HBR.out.2.2.2]]
                  exact set4_heap (w := w5.drew) HL5.out
              case measure => simp [intOf]; omega
            | some r =>
              obtain ⟨tn, htn⟩ : ∃ k, k = r.turn.toNat := ⟨_, rfl⟩
              have HTN := hid htn
              have HL4c := hid (show w4.cell? ⟨g1, 0, none⟩ = some (.int .u32 (tn : Int)) from (cell_of_row w4 _ _ _ _ _ HL4.out).trans (by rw [htn]; rfl))
              clear htn
              by_cases hlr : tn < xn
              · have hgt : decide ((xn : Int) > (tn : Int)) = true := decide_eq_true (by omega)
                have HLR := hid hlr
                have hgt2 : decide (tn < xn) = true := decide_eq_true hlr
                clear hlr
                go_upto_region 12 with (first
                  | (go_at_call 43; refine (HIR4.out).mono ?_; rintro e w5 ⟨rfl, hb5⟩; have hq5 := (hb5.cell (p := ⟨g1, 0, none⟩) (Array.getElem?_eq_some_iff.1 HL4.out).1).trans HL4c.out; have hx5 : w5.cell? ⟨g9, 2, none⟩ = some (.int .u32 (xn : Int)) := (hb5.cell (p := ⟨g9, 2, none⟩) (Array.getElem?_eq_some_iff.1 HG4.out).1).trans m2)
                  | fail)
                clear hq5 hx5
                have HE := hid (show stOf s (j + 1) = some B.rt by
                  rw [HS1.out, if_pos (by simp)]
                  show (if r.turn.toNat < B.rt.turn.toNat then some B.rt else some r) = _
                  rw [if_pos (by have := HLR.out; rw [HTN.out, HXN.out] at this; exact this)])
                have HA5 := hid ((hb5.block g0 (Array.getElem?_eq_some_iff.1 HA4.out).1).trans HA4.out)
                have HL5 := hid ((hb5.block g1 (Array.getElem?_eq_some_iff.1 HL4.out).1).trans HL4.out)
                have HG5 := hid ((hb5.block g9 (Array.getElem?_eq_some_iff.1 HG4.out).1).trans HG4.out)
                have c0 := HC0.out w5 hb5
                have HB5 := hid (HB4.out.trans (hb5.mono HB4.out.size))
                clear hb5 m0 m1 m2 m3 m4
                obtain ⟨⟨m0, m1, m2, m3, m4⟩, -, -, -, -, -⟩ := zero5 HG5.out
                obtain ⟨⟨q0, q1, q2, q3⟩, f0, f1, f2, f3⟩ := zero4 HL5.out
                go_still_tail 11, (by kernel_rfl)
                change wpList _ _ _ _ _ w5.drew
                go_wp2_with fail
                have HBR := hid (show B.rt.turn.toNat = xn ∧ B.rt.epoch.toNat = en ∧ B.rt.gen.toNat = yn ∧ B.rt.area.toNat = an from ⟨HXN.out.symm, HEN.out.symm, HYN.out.symm, HAN.out.symm⟩)
                go_roundw
                case rel =>
                  refine ⟨j + 1, hlt, by rw [HE.out]; rfl, by go_num, HOK1.out, ?_, ?_, set4_below (below_drw HB5.out) HGG.out.2.1⟩
                  · exact ((set4_keeps w5.drew g1 _ _ _ _).block g0 (Array.getElem?_eq_some_iff.1 HA5.out).1 HGG.out.2.2).trans HA5.out
                  · rw [HE.out]
                    show _ = some (Obj.cells (rcelR B.rt) _ _)
                    rw [show rcelR B.rt = #[.int .u32 (xn : Int), .int .u32 (en : Int), .int .u32 (yn : Int), .int .u8 (an : Int)] by unfold rcelR; rw [HBR.out.1, HBR.out.2.1, HBR.out.2.2.1, HBR.out.2.2.2]]
                    exact set4_heap (w := w5.drew) HL5.out
                case measure => simp [intOf]; omega
              · have hgt : decide ((xn : Int) > (tn : Int)) = false := decide_eq_false (by omega)
                have hgt2 : decide (tn < xn) = false := decide_eq_false hlr
                have HLR := hid hlr
                clear hlr
                go_wp2_with (first
                  | (go_at_call 43; refine (HIR4.out).mono ?_; rintro e w5 ⟨rfl, hb5⟩; have hq5 := (hb5.cell (p := ⟨g1, 0, none⟩) (Array.getElem?_eq_some_iff.1 HL4.out).1).trans HL4c.out; have hx5 : w5.cell? ⟨g9, 2, none⟩ = some (.int .u32 (xn : Int)) := (hb5.cell (p := ⟨g9, 2, none⟩) (Array.getElem?_eq_some_iff.1 HG4.out).1).trans m2)
                  | fail)
                have HE := hid (show stOf s (j + 1) = some r by
                  rw [HS1.out, if_pos (by simp)]
                  show (if r.turn.toNat < B.rt.turn.toNat then some B.rt else some r) = _
                  rw [if_neg (by have := HLR.out; rw [HTN.out, HXN.out] at this; exact this)])
                go_roundw
                case rel => exact ⟨j + 1, hlt, by rw [HE.out]; rfl, by go_num, HOK1.out, (hb5.block g0 (Array.getElem?_eq_some_iff.1 HA4.out).1).trans HA4.out, by rw [HE.out]; exact (hb5.block g1 (Array.getElem?_eq_some_iff.1 HL4.out).1).trans HL4.out, HB4.out.trans (hb5.mono HB4.out.size)⟩
                case measure => simp [intOf]; omega
        · have hecb : (ec != 0) = true := by simpa using hec
          have HE := hid (show stOf s (j + 1) = st by rw [HS1.out, if_neg (fun h => hec h.1)]; rfl)
          clear hec
          go_wp2_with fail
          go_roundw
          case rel => exact ⟨j + 1, hlt, by rw [HE.out], by go_num, HOK1.out, HA4.out, by rw [HE.out]; exact HL4.out, HB4.out⟩
          case measure => simp [intOf]; omega
      · have heb : (er != 0) = true := by simpa using he
        have HER := hid he
        clear he
        obtain ⟨⟨m0, m1, m2, m3⟩, f0, f1, f2, f3⟩ := zero4 HA2.out
        go_wp2_with fail
        refine bodyPost_ret (results_cellS rfl _ _ _ g0 48 _ (0, 0) _ rfl rfl (set4_heap HA2.out) Try.underlying48 HZ4.out) rfl ?_
        have HE := hid (show s.loadb = (Rt.zero, er) by
          unfold Sl.loadb
          obtain rfl | rfl : j = 0 ∨ j = 1 := by omega
          · have h1 := HRR.out
            rw [show (((0 : Nat) : Int)) = 0 from rfl] at h1
            rw [← h1, if_pos HER.out]
          · have h0 := HOK.out 0 (by omega)
            have h1 := HRR.out
            rw [show (((0 : Nat) : Int)) = 0 from rfl] at h0
            rw [show (((1 : Nat) : Int)) = 1 from rfl] at h1
            rw [if_neg (by rw [h0]; simp), ← h1, if_pos HER.out])
        rw [HE.out]
        exact ⟨rfl, set4_below HB2.out HGG.out.1⟩
    · obtain rfl : j = 2 := by omega
      rw [show (((2 : Nat) : Int)) = 2 from rfl]
      have HE := hid (show s.loadb = outR st by
        unfold Sl.loadb
        have h0 := HOK.out 0 (by omega)
        have h1 := HOK.out 1 (by omega)
        rw [show (((0 : Nat) : Int)) = 0 from rfl] at h0
        rw [show (((1 : Nat) : Int)) = 1 from rfl] at h1
        rw [if_neg (by rw [h0]; simp), if_neg (by rw [h1]; simp), ← HST.out])
      obtain ⟨⟨m0, m1, m2, m3⟩, f0, f1, f2, f3⟩ := zero4 HA.out
      cases st with
      | none =>
        go_wp2_with fail
        refine bodyPost_ret (results_cellS rfl _ _ _ g0 48 _ (0, 0) _ rfl rfl (set4_heap HA.out) Try.underlying48 HZ4.out) rfl ?_
        rw [HE.out]
        exact ⟨rfl, set4_below HB.out HGG.out.1⟩
      | some r =>
        obtain ⟨⟨q0, q1, q2, q3⟩, -, -, -, -⟩ := zero4 HL.out
        go_wp2_with fail
        refine bodyPost_ret (results_cellS rfl _ _ _ g0 48 _ (0, 0) _ rfl rfl (set4_heap HA.out) Try.underlying48 HZ4.out) rfl ?_
        rw [HE.out]
        exact ⟨rfl, set4_below HB.out HGG.out.1⟩

end Go.Proofs.Ytbagpckiegpalaa
