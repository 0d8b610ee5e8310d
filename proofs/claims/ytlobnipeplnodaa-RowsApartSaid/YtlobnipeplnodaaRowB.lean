/-
  build: a matrix of widths.
-/
import Derived.Test.YtlobnipeplnodaaRowZ
namespace Go.Proofs.Ytlobnipeplnodaa
open Go.RowKit Go.Shelf
set_option linter.unusedVariables false

def bvn (n : Nat) : Value := .int .u8 (n : Int)

/-- A slice that came in reads so: of an empty one nothing is said but its length. -/
def RdN (w : World) (v : Value) (xs : List Value) : Prop :=
  ∃ a cap, v = .slice a xs.length cap ∧ xs.length ≤ cap ∧ cap ≤ 9223372036854775807 ∧ ∀ j x, xs[j]? = some x → ∃ b off, a = some ⟨b, off, none⟩ ∧ b < w.heap.size ∧ w.cell? ⟨b, off + j, none⟩ = some x

theorem RdN.len {w : World} {v : Value} {xs : List Value} (h : RdN w v xs) : ∃ a cap, v = .slice a xs.length cap ∧ xs.length ≤ cap ∧ cap ≤ 9223372036854775807 := by
  obtain ⟨a, cap, e, h1, h2, _⟩ := h
  exact ⟨a, cap, e, h1, h2⟩

theorem RdN.all {w w' : World} {v : Value} {xs : List Value} (h : RdN w v xs) (hb : Below w.heap.size w w') : RdN w' v xs := by
  obtain ⟨a, cap, e, h1, h2, h3⟩ := h
  refine ⟨a, cap, e, h1, h2, fun j x hj => ?_⟩
  obtain ⟨b, off, ha, hlt, hc⟩ := h3 j x hj
  exact ⟨b, off, ha, by have := hb.size; omega, (hb.cell (p := ⟨b, off + j, none⟩) hlt).trans hc⟩

theorem RdN.at {w : World} {a : Option Addr} {n cap : Nat} {xs : List Value} (h : RdN w (.slice a n cap) xs) (k : Nat) (x : Value) (hk : xs[k]? = some x) : n = xs.length ∧ ∃ b off, a = some ⟨b, off, none⟩ ∧ w.cell? ⟨b, off + k, none⟩ = some x := by
  obtain ⟨a', cap', e, h1, h2, h3⟩ := h
  simp only [Value.slice.injEq] at e
  obtain ⟨rfl, rfl, rfl⟩ := e
  obtain ⟨b, off, ha, hlt, hc⟩ := h3 k x hk
  exact ⟨rfl, b, off, ha, hc⟩

theorem IsRow.rdn {w : World} {a : Option Addr} {len cap : Nat} {zs : List Int} (h : IsRow .u8 w a len cap zs) : ∃ ws : List Nat, ws.length = len ∧ RdN w (.slice a len cap) (ws.map bvn) ∧ ∀ x ∈ ws, x < 256 := by
  obtain ⟨l, hl, hr⟩ := h.rd len (Nat.le_refl _)
  have hb := h.bounds
  refine ⟨l.map UInt8.toNat, by simpa using hl, ?_, fun x hx => ?_⟩
  · obtain ⟨a', cap', e, h1, h2, h3, h4⟩ := hr
    simp only [Value.slice.injEq] at e
    obtain ⟨rfl, -, rfl⟩ := e
    refine ⟨a, cap, by simp [hl], by simp [hl]; omega, by omega, fun j x hj => ?_⟩
    simp only [List.map_map, List.getElem?_map] at hj
    cases hlj : l[j]? with
    | none => rw [hlj] at hj; cases hj
    | some y =>
      rw [hlj] at hj
      have hjl : j < l.length := (List.getElem?_eq_some_iff.1 hlj).1
      cases a with
      | none => have := h3 rfl; omega
      | some ad =>
        obtain ⟨b, off, spot⟩ := ad
        have hc := h4 _ rfl j hjl
        have h0 := h4 _ rfl 0 (by omega)
        have hs : spot = none := by simpa [Addr.add] using World.cell?_spot h0
        subst hs
        rw [Addr.add_lit] at hc
        refine ⟨b, off, rfl, ?_, ?_⟩
        · have := World.block_lt_of_cell? _ _ h0
          simpa [Addr.add] using this
        · rw [hc]
          simp only [Option.map_some, Function.comp_apply, Option.some.injEq] at hj
          rw [← hj]
          simp [bv, bvn, hlj]
  · obtain ⟨y, _, rfl⟩ := List.mem_map.1 hx
    exact y.toNat_lt

/-- What lay ahead lies as it lay; and nothing below. -/
def Far2 (w wr : World) : Prop := Below w.heap.size w wr ∧ w.heap.size ≤ w.heap.size

theorem Far2.step {w wr w' : World} {b : Nat} (h : Below w.heap.size w wr ∧ w.heap.size ≤ w.heap.size) (hk : Keeps (fun i => i = b) wr w') (hb : w.heap.size ≤ b) : Below w.heap.size w w' ∧ w.heap.size ≤ w.heap.size :=
  ⟨h.1.trans (hk.below h.1.size (fun i hi => by omega)), Nat.le_refl _⟩

/-- In the midst of it. -/
def Mid (ws : List Nat) (b r n c : Nat) (w wr : World) : Prop :=
  ∃ m, MxAt wr b m ∧ Built ws c m ∧ m.r = r ∧ m.n = n ∧ (Below w.heap.size w wr ∧ w.heap.size ≤ w.heap.size)

/-- What build hands back. -/
def BuildPost (ws : List Nat) (r n : Nat) (w : World) (e : Ending) (w' : World) : Prop :=
  ∃ b k, e = .returned (.tuple #[.pointer (some ⟨b, 0, none⟩), .int .i64 k]) ∧ w.heap.size ≤ b ∧ Mid ws b r n 40 w w'

set_option maxRecDepth 100000 in
set_option maxHeartbeats 4000000 in
theorem build_any (w : World) (rr nn : Nat) (hrr : rr < 256) (hnn : nn < 256) (va vb : Value) (ws gs : List Nat) (ha : RdN w va (ws.map bvn)) (hg : RdN w vb (gs.map bvn)) (hw8 : ∀ x ∈ ws, x < 256) (hg8 : ∀ x ∈ gs, x < 256) :
    Calls Try.prog 25 #[.int .u8 (rr : Nat), .int .u8 (nn : Nat), va, vb] w (BuildPost ws (1 + rr % 8) (1 + nn % 16) w) := by
  obtain ⟨aa, ca, rfl, hca, hma⟩ := ha.len
  obtain ⟨ab, cb, rfl, hcb, hmb⟩ := hg.len
  rw [List.length_map] at hca hcb
  have HA := hid ha
  have HG := hid hg
  have HW8 := hid hw8
  have HG8 := hid hg8
  clear ha hg hw8 hg8
  rw [List.length_map, List.length_map]
  have hwl : ws.length ≤ 9223372036854775807 := by omega
  have hgl : gs.length ≤ 9223372036854775807 := by omega
  obtain ⟨r, hr⟩ : ∃ r, r = 1 + rr % 8 := ⟨_, rfl⟩
  obtain ⟨n, hn⟩ : ∃ n, n = 1 + nn % 16 := ⟨_, rfl⟩
  obtain ⟨r7, hr7⟩ : ∃ q, q = rr % 8 := ⟨_, rfl⟩
  obtain ⟨n7, hn7⟩ : ∃ q, q = nn % 16 := ⟨_, rfl⟩
  have e1 : (rr : Int) % 8 = (r7 : Int) := by omega
  have e2 : (rr : Int).tmod 8 = (r7 : Int) := by rw [Int.tmod_eq_emod_of_nonneg (by omega)]; exact e1
  have e3 : 1 + (r7 : Int) = (r : Int) := by omega
  have f1 : (nn : Int) % 16 = (n7 : Int) := by omega
  have f2 : (nn : Int).tmod 16 = (n7 : Int) := by rw [Int.tmod_eq_emod_of_nonneg (by omega)]; exact f1
  have f3 : 1 + (n7 : Int) = (n : Int) := by omega
  have hr1 : 1 ≤ r ∧ r ≤ 8 := by omega
  have hn1 : 1 ≤ n ∧ n ≤ 16 := by omega
  have b1 : (r7 : Int) < 8 := by omega
  have b2 : (n7 : Int) < 16 := by omega
  have b3 : (rr : Int) < 256 := by omega
  have b4 : (nn : Int) < 256 := by omega
  rw [← hr, ← hn]
  clear hr hn hr7 hn7 hrr hnn
  go_enter Try.func25, Try.ntmps25
  go_wp2_with fail
  refine (new_yes w r n hr1.1 hr1.2 hn1.1 hn1.2).mono ?_
  rintro e w1 ⟨rfl, hm1, hb1⟩
  have hlt1 := hm1.lt
  have HX1 := hid (show Mid ws w.heap.size r n 0 w w1 from ⟨_, hm1, built0 ws r n, rfl, rfl, hb1, Nat.le_refl _⟩)
  obtain ⟨wb, hwb⟩ : ∃ wb : World, wb.heap.size = w.heap.size := ⟨w, rfl⟩
  have HLT := hid (show w.heap.size ≤ wb.heap.size by omega)
  rw [← hwb] at HX1 ⊢
  clear hm1 hb1 e1 e2 e3 f1 f2 f3 hr1 hn1 b1 b2 b3 b4 hlt1 hwb
  go_wp2_with fail
  go_loopw [12, 31] (fun kv i wr => ∃ k : Nat, k ≤ ws.length ∧ k ≤ 40 ∧ i = .int .i64 k ∧ kv = .int .i64 k ∧ Mid ws wb.heap.size r n k w wr) (fun _ i _ => ws.length - (intOf i).toNat)
  case atStart => exact ⟨0, Nat.zero_le _, by omega, rfl, rfl, HX1.out⟩
  case round =>
    obtain ⟨k, hk, hk40, rfl, rfl, hS⟩ := hrel
    obtain ⟨m, hm, hb, hr, hn, hB⟩ := hS
    have HK40 := hid hk40
    have HX := hid (show Mid ws wb.heap.size r n 40 w wr from ⟨m, hm, hb.mono hk40, hr, hn, hB⟩)
    clear hk40
    by_cases hlt : k < ws.length
    · obtain ⟨x, hx⟩ : ∃ x, ws[k]? = some x := ⟨_, List.getElem?_eq_getElem hlt⟩
      obtain ⟨-, g2, o2, hca2, hcell2⟩ := (HA.out.all (hB.1.mono hB.2)).at k (bvn x) (by simp [hx])
      subst hca2
      have hcell2' : wr.cell? ⟨g2, o2 + k, none⟩ = some (.int .u8 (x : Nat)) := hcell2
      have hki : (k : Int) < (ws.length : Int) := by omega
      have hx8 : (x : Int) < 256 := by have := HW8.out x (List.mem_of_getElem? hx); omega
      have HM := hid hm
      have HBU := hid hb
      have HHR := hid hr
      have HHN := hid hn
      have HB := hid hB
      have HXX := hid hx
      clear hm hb hr hn hB hcell2 hx
      by_cases h40 : k < 40
      · have h40i : (k : Int) < 40 := by omega
        obtain ⟨q, hq⟩ : ∃ q, q = x % 6 := ⟨_, rfl⟩
        have q1 : (x : Int) % 6 = (q : Int) := by omega
        have q2 : (x : Int).tmod 6 = (q : Int) := by rw [Int.tmod_eq_emod_of_nonneg (by omega)]; exact q1
        have q3 : (q : Int) < 6 := by omega
        have HQ := hid hq
        clear hq h40 hx8
        go_wp2_with fail
        refine (show Calls Try.prog 15 #[.pointer (some ⟨wb.heap.size, 0, none⟩), .int .u32 ((k : Int) + 1), .int .i64 (1 + (q : Int))] wr (StepTo ws (k + 1) wb.heap.size m wr) from by
          have := place_step wr wb.heap.size k x ws m HM.out HBU.out HXX.out (by omega)
          rw [← HQ.out] at this
          simpa using this).mono ?_
        rintro e w9 ⟨u, m9, rfl, hm9, hb9, hr9, hn9, hk9⟩
        have HX9 := hid (show Mid ws wb.heap.size r n (k + 1) w w9 from ⟨m9, hm9, hb9, hr9.trans HHR.out, hn9.trans HHN.out, Far2.step HB.out hk9 HLT.out⟩)
        clear hm9 hb9 hr9 hn9 hk9 q1 q2
        go_wp2
        go_roundw
        case rel => exact ⟨k + 1, hlt, by omega, by go_num, by go_num, HX9.out⟩
        case measure => simp [intOf]; omega
      · have h40i : (40 : Int) ≤ (k : Int) := by omega
        clear h40
        go_wp2_with fail
        go_loopw [52] (fun i wr => ∃ k : Nat, k ≤ gs.length ∧ i = .int .i64 k ∧ Mid ws wb.heap.size r n 40 w wr) (fun i _ => gs.length - (intOf i).toNat)
        case atStart => exact ⟨0, Nat.zero_le _, rfl, HX.out⟩
        case round =>
          obtain ⟨k2, hk2, rfl, hS⟩ := hrel
          obtain ⟨m2, hm2, hb2, hr2, hn2, hB2⟩ := hS
          have HS := hid (show Mid ws wb.heap.size r n 40 w wr from ⟨m2, hm2, hb2, hr2, hn2, hB2⟩)
          by_cases hlt2 : k2 < gs.length
          · obtain ⟨y, hy⟩ : ∃ y, gs[k2]? = some y := ⟨_, List.getElem?_eq_getElem hlt2⟩
            obtain ⟨-, g3, o3, hca3, hcell3⟩ := (HG.out.all (hB2.1.mono hB2.2)).at k2 (bvn y) (by simp [hy])
            subst hca3
            have hcell3' : wr.cell? ⟨g3, o3 + k2, none⟩ = some (.int .u8 (y : Nat)) := hcell3
            have hki2 : (k2 : Int) < (gs.length : Int) := by omega
            have hy8 : (y : Int) < 256 := by have := HG8.out y (List.mem_of_getElem? hy); omega
            have HM2 := hid hm2
            have HBU2 := hid hb2
            have HHR := hid hr2
            have HHN := hid hn2
            have HB2 := hid hB2
            clear hm2 hb2 hr2 hn2 hB2 hcell3 hy
            go_wp2_with fail
            refine (remove_step wr wb.heap.size 40 y ws m2 HM2.out HBU2.out).mono ?_
            rintro e w9 ⟨u, m9, rfl, hm9, hb9, hr9, hn9, hk9⟩
            have HX9 := hid (show Mid ws wb.heap.size r n 40 w w9 from ⟨m9, hm9, hb9, hr9.trans HHR.out, hn9.trans HHN.out, Far2.step HB2.out hk9 HLT.out⟩)
            clear hm9 hb9 hr9 hn9 hk9
            go_wp2
            go_roundw
            case rel => exact ⟨k2 + 1, hlt2, by go_num, HX9.out⟩
            case measure => simp [intOf]; omega
          · have hki2 : ¬ (k2 : Int) < (gs.length : Int) := by omega
            clear hlt2 hm2 hb2 hr2 hn2 hB2
            go_wp2
            go_ret2
            exact ⟨wb.heap.size, _, rfl, HLT.out, HS.out⟩
    · have hki : ¬ (k : Int) < (ws.length : Int) := by omega
      clear hlt hm hb hr hn hB
      go_wp2_with fail
      go_loopw [52] (fun i wr => ∃ k : Nat, k ≤ gs.length ∧ i = .int .i64 k ∧ Mid ws wb.heap.size r n 40 w wr) (fun i _ => gs.length - (intOf i).toNat)
      case atStart => exact ⟨0, Nat.zero_le _, rfl, HX.out⟩
      case round =>
        obtain ⟨k2, hk2, rfl, hS⟩ := hrel
        obtain ⟨m2, hm2, hb2, hr2, hn2, hB2⟩ := hS
        have HS := hid (show Mid ws wb.heap.size r n 40 w wr from ⟨m2, hm2, hb2, hr2, hn2, hB2⟩)
        by_cases hlt2 : k2 < gs.length
        · obtain ⟨y, hy⟩ : ∃ y, gs[k2]? = some y := ⟨_, List.getElem?_eq_getElem hlt2⟩
          obtain ⟨-, g3, o3, hca3, hcell3⟩ := (HG.out.all (hB2.1.mono hB2.2)).at k2 (bvn y) (by simp [hy])
          subst hca3
          have hcell3' : wr.cell? ⟨g3, o3 + k2, none⟩ = some (.int .u8 (y : Nat)) := hcell3
          have hki2 : (k2 : Int) < (gs.length : Int) := by omega
          have hy8 : (y : Int) < 256 := by have := HG8.out y (List.mem_of_getElem? hy); omega
          have HM2 := hid hm2
          have HBU2 := hid hb2
          have HHR := hid hr2
          have HHN := hid hn2
          have HB2 := hid hB2
          clear hm2 hb2 hr2 hn2 hB2 hcell3 hy
          go_wp2_with fail
          refine (remove_step wr wb.heap.size 40 y ws m2 HM2.out HBU2.out).mono ?_
          rintro e w9 ⟨u, m9, rfl, hm9, hb9, hr9, hn9, hk9⟩
          have HX9 := hid (show Mid ws wb.heap.size r n 40 w w9 from ⟨m9, hm9, hb9, hr9.trans HHR.out, hn9.trans HHN.out, Far2.step HB2.out hk9 HLT.out⟩)
          clear hm9 hb9 hr9 hn9 hk9
          go_wp2
          go_roundw
          case rel => exact ⟨k2 + 1, hlt2, by go_num, HX9.out⟩
          case measure => simp [intOf]; omega
        · have hki2 : ¬ (k2 : Int) < (gs.length : Int) := by omega
          clear hlt2 hm2 hb2 hr2 hn2 hB2
          go_wp2
          go_ret2
          exact ⟨wb.heap.size, _, rfl, HLT.out, HS.out⟩

end Go.Proofs.Ytlobnipeplnodaa
