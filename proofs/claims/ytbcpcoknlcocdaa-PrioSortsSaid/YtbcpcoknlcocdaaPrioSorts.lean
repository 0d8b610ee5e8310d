/-
  PrioSorts: whatever items are pushed, each ID once, they come out in order, each once, and nothing is left. No condition.
  (The frame behind the walk is the guide's shell, at these parameters.)
-/
import Derived.Test.YtbcpcoknlcocdaaRows
import Derived.WalkKit
import Derived.Test.YtbcpcoknlcocdaaPrB
import Derived.Test.YtbcpcoknlcocdaaPrI
import Derived.Test.YtbcpcoknlcocdaaPrP
import Derived.ProofKit
import Derived.Deep.Cut
import Derived.Deep.CutRange
import Derived.Deep.CutBlock
import Derived.Deep.Grids
import Derived.OpenShut
import Derived.ShutString
import Derived.ChangeOld
import Derived.Below
namespace Go.Proofs.Ytbcpcoknlcocdaa.prioSorts
open Go.ChangeShapes Go.WideShapes Go.ChangeAt Go.RowKit
open Go.ChangeMaps (open_string shut_string)
set_option linter.unusedVariables false

theorem own : ownKnob Try.prog.godebug = none := by kernel_rfl
theorem laidOut : laidOutB Try.prog = true := by kernel_rfl

set_option linter.unusedSimpArgs false
theorem sub_succ {k n : Nat} (h : k < n) : n - (((k + 1 : Nat) : Int)).toNat < n - ((k : Int)).toNat := by omega
theorem wrap_succ {k n : Nat} (h : k < n) (hn : n ≤ 10000) : Go.RowKit.wrap64 ((k : Int) + 1) = ((k + 1 : Nat) : Int) := by unfold Go.RowKit.wrap64; omega
theorem zero_bool (w : World) : (zeroValue 4).run Try.prog w = .ok (.bool false) w := by kernel_rfl
set_option maxRecDepth 100000 in
set_option maxHeartbeats 8000000 in
theorem walk (a0 : Option Addr) (len0 cap0 : Nat) (w : World) (w0 : IsItems w a0 len0 cap0) :
    Calls Try.prog 4 #[.slice a0 len0 cap0] w fun e w' => e = .returned (.bool true) ∧ Below w.heap.size w w' := by
  obtain ⟨L, hL, hrd⟩ := w0.rdi 101
  obtain ⟨hlc, hcm⟩ := w0.bounds
  have HR := hid hrd
  have HL := hid hL
  clear w0 hrd hL
  have hmm := @run_makeMap Try.prog
  go_enter Try.func4, Try.ntmps4
  go_wp2_with fail
  refine (awake11_any w).mono ?_
  rintro e x1 ⟨rfl, hb1⟩
  have HB1 := hid hb1
  have hs1 := hb1.size
  clear hb1
  go_wp2_with fail
  refine (new11_any x1).mono ?_
  rintro e x2 ⟨rfl, hr2, hb2⟩
  have HR2 := hid hr2
  have HB2 := hid (HB1.out.trans (hb2.mono hs1))
  have hlt2 := hr2.lt
  clear hr2 hb2
  go_wp2_with fail
  obtain ⟨b, hb⟩ : ∃ b, b = x1.heap.size + 1 := ⟨_, rfl⟩
  obtain ⟨m, hm⟩ : ∃ m, m = x1.heap.size := ⟨_, rfl⟩
  obtain ⟨ms, hms⟩ : ∃ ms, ms = x2.heap.size := ⟨_, rfl⟩
  obtain ⟨x3, hx3⟩ : ∃ x, x = x2.alloc (.map #[] 0) := ⟨_, rfl⟩
  have hb3 : Below x2.heap.size x2 x3 := by rw [hx3]; exact (Below.refl _ _).alloc (Nat.le_refl _) _
  have HS3 := hid (show SnF x3 ms 0 (seenF []) from by rw [hx3, hms]; exact SnF.new x2)
  rw [← hb, ← hm] at HR2
  have HR3 := hid (HR2.out.below hb3)
  have HB3 := hid (HB2.out.trans (hb3.mono HB2.out.size))
  rw [← hx3]
  simp only [← hb, ← hms]
  have hbm : m < ms ∧ b < ms ∧ w.heap.size ≤ m := by omega
  clear hx3 hb3 HR2 HB2 hlt2 hb hms
  obtain ⟨lo, hlo⟩ : ∃ lo, lo = m := ⟨_, rfl⟩
  have HR4 := hid (show RwAt x3 lo b (.slice none 0 0) m [] by rw [hlo]; exact HR3.out)
  have hlm : lo ≤ m ∧ m ≤ lo := by omega
  clear hm hlo HR3
  go_loopw [17] (fun i wr => ∃ (k : Nat) (v : Value) (q : List It), i = .int .i64 k ∧ k ≤ len0 ∧ k ≤ 100 ∧ RwAt wr lo b v m q ∧ HeapN q q.length ∧ q.length ≤ k ∧ SnF wr ms q.length (seenF q) ∧ (∀ p, v.ownBlock = some p → p ≠ ms) ∧ Below w.heap.size w wr) (fun i _ => len0 - (intOf i).toNat)
  case atStart => exact ⟨0, _, [], rfl, Nat.zero_le _, Nat.zero_le _, HR4.out, fun k _ h => absurd h (by simp), Nat.zero_le _, HS3.out, fun p hp => (by cases hp), HB3.out⟩
  case round =>
    obtain ⟨k, v, q, rfl, hk, hk1, hR, hh, hql, hS, hown, hB⟩ := hrel
    have HQ0 := hid (show q.length ≤ len0 by omega)
    have HRk := hid hR
    have HSk := hid hS
    have HHk := hid hh
    have HOk := hid hown
    have HBk := hid hB
    have hsw := hB.size
    have hmsw := hS.lt
    by_cases hlt : k < len0
    · obtain ⟨x, hx⟩ : ∃ x, L[k]? = some x := ⟨_, List.getElem?_eq_getElem (by have := HL.out; omega)⟩
      obtain ⟨hkx, g, off, rfl, hgl, z0, z1, z2⟩ := (HR.out.all hB) k x hx
      obtain ⟨t0, t1, t2⟩ := x
      dsimp only at hkx z0 z1 z2
      have hki : (k : Int) < (len0 : Int) := by omega
      have HKX := hid hkx
      obtain ⟨y1, hy1⟩ : ∃ y, y = wr.alloc (.cells #[.int .u32 t0, .int .u8 t1, .int .u32 t2] 29) := ⟨_, rfl⟩
      have hby : Below wr.heap.size wr y1 := by rw [hy1]; exact (Below.refl _ _).alloc (Nat.le_refl _) _
      have HBX := hid (show y1.heap[wr.heap.size]? = some (.cells #[.int .u32 t0, .int .u8 t1, .int .u32 t2] 29 (0, 0)) by rw [hy1]; exact heap_alloc_new wr _)
      have HY1 := hid hby
      clear hR hh hS hown hB hx hkx hby
      by_cases h100 : k = 100
      · have d1 : decide ((k : Int) ≥ 100) = true := decide_eq_true (by omega)
        have d2 : decide ((100 : Int) ≤ (k : Int)) = true := decide_eq_true (by omega)
        have HRy := hid (HRk.out.below HY1.out)
        have HSy := hid (HSk.out.block (w' := y1) (HY1.out.block ms (by omega)))
        have HBy := hid (HBk.out.trans (HY1.out.mono hsw))
        clear h100 hk1 hk
        go_upto_region 13 with (fail)
        rw [← hy1]
        clear hy1
        go_upto_region 14 with (fail)
        obtain ⟨s1, hs1⟩ : ∃ s, s = y1.alloc (.cells #[.int .u32 0, .int .u8 0, .int .u32 0] 32) := ⟨_, rfl⟩
        have hbs : Below y1.heap.size y1 s1 := by rw [hs1]; exact (Below.refl _ _).alloc (Nat.le_refl _) _
        obtain ⟨g7, hg7⟩ : ∃ g, g = y1.heap.size := ⟨_, rfl⟩
        have HG7 := hid (show s1.heap[g7]? = some (.cells (cel (0, 0, 0)).toArray 32 (0, 0)) by rw [hs1, hg7]; exact heap_alloc_new _ _)
        have HRs := hid (HRy.out.below hbs)
        have HSs := hid (show SnF s1 ms q.length (seenF q) from HSy.out.block (hbs.block ms HSy.out.lt))
        have HBs := hid (show Below w.heap.size w s1 from HBy.out.trans (hbs.mono HBy.out.size))
        have hNg : ∀ k, Hb b m v k → k < g7 := by
          rintro k (e | e | e)
          · have := HRy.out.lt; omega
          · have := HRy.out.mp.lt; omega
          · have := (World.ownsRow.lt HRy.out.own k e).2; omega
        have hmg : ms < g7 := by have := HSy.out.lt; omega
        have HNg := hid hNg
        rw [← hs1, ← hg7]
        have hlen := HSs.out.len
        obtain ⟨n, hn⟩ : ∃ n, n = q.length := ⟨_, rfl⟩
        rw [← hn] at hlen
        have HNN := hid hn
        have hnl : n ≤ len0 := by rw [hn]; exact HQ0.out
        have HLEN := hid (show q.length ≤ 10000 from HRy.out.len)
        clear hs1 hbs hg7 hNg hn
        go_wp2_with fail
        clear hlen
        go_loopw [39] (fun i wr => ∃ (k : Nat) (v' : Value) (r : List It) (y : It) (c : Nat) (F : Int → Option Bool), i = .int .i64 k ∧ k ≤ n ∧ r.length + k = n ∧ RwAt wr lo b v' m r ∧ HeapN r r.length ∧ SnF wr ms c F ∧ c ≤ 10000 ∧ (∀ z, (plc r z).isSome = true → F z = some true) ∧ v'.ownBlock = v.ownBlock ∧ wr.heap[g7]? = some (.cells (cel y).toArray 32 (0, 0)) ∧ (k = 0 ∨ ∀ x ∈ r, Bef y x) ∧ Below w.heap.size w wr) (fun i _ => n - (intOf i).toNat)
        case atStart => exact ⟨0, v, q, (0, 0, 0), q.length, seenF q, rfl, Nat.zero_le _, by have := HNN.out; omega, HRs.out, HHk.out, HSs.out, HLEN.out, fun z hz => by unfold seenF; rw [if_pos hz], rfl, HG7.out, .inl rfl, HBs.out⟩
        case round =>
          obtain ⟨z2, hz2⟩ : ∃ y, y = wr := ⟨_, rfl⟩
          subst hz2
          obtain ⟨k2, v2, r, y, c2, F, rfl, hk2, hrk, hR2, hH2, hS2, hc2, hF2, ho2, hG2, hB7, hB2⟩ := hrel
          have HB2 := hid hB2
          by_cases hlt2 : k2 < n
          · obtain ⟨p, hp⟩ : ∃ p, r.length = p + 1 := ⟨r.length - 1, by omega⟩
            have HPO := hid (pop11_yes z2 lo b m v2 r p hR2 hH2 hp)
            have hxm : it r 0 ∈ r := it_mem (by omega)
            have HKW := hid (hR2.ok _ hxm)
            have HFX := hid (hF2 (it r 0).1 (plc_mem.2 ⟨_, hxm, rfl⟩))
            have HBY := hid (hB7.imp id fun h => h _ hxm)
            have HRT := hid (show ∀ q3 : List It, (it r 0 :: q3).Perm r → (∀ x ∈ q3, Bef (it r 0) x) ∧ (∀ z, (plc q3 z).isSome = true → z ≠ (it r 0).1 ∧ (plc r z).isSome = true) from fun q3 hq3 => by
              have hid3 : IdsApart (it r 0 :: q3) := hR2.ids.perm hq3.symm
              unfold IdsApart at hid3
              rw [List.map_cons, List.nodup_cons] at hid3
              refine ⟨fun x hx => ?_, fun z hz => ?_⟩
              · have hxr : x ∈ r := hq3.mem_iff.1 (List.mem_cons_of_mem _ hx)
                obtain ⟨j, hj⟩ := List.getElem?_of_mem hxr
                have h1 := hH2.root j (List.getElem?_eq_some_iff.1 hj).1
                rw [it_get hj] at h1
                have hne : it r 0 ≠ x := fun e => hid3.1 (by rw [e]; exact List.mem_map_of_mem hx)
                rcases bef_total hne with h | h
                · exact h
                · exact absurd h h1
              · obtain ⟨x, hx, ex⟩ := plc_mem.1 hz
                exact ⟨fun e => hid3.1 (by rw [← e, ← ex]; exact List.mem_map_of_mem hx), plc_mem.2 ⟨x, hq3.mem_iff.1 (List.mem_cons_of_mem _ hx), ex⟩⟩)
            have HO2 := hid ho2
            have HS2 := hid hS2
            have HF2 := hid hF2
            have HR2 := hid hR2
            have HG72 := hid hG2
            have hNg2 : ∀ k, Hb b m v2 k → k < g7 := by
              rintro k (e | e | e)
              · exact HNg.out k (.inl e)
              · exact HNg.out k (.inr (.inl e))
              · exact HNg.out k (.inr (.inr (by rw [← HO2.out]; exact e)))
            have hNm2 : ¬ Hb b m v2 ms := by
              rintro (h | h | h)
              · omega
              · omega
              · exact HOk.out ms (by rw [← HO2.out]; exact h) rfl
            have HNg2 := hid hNg2
            have HNm2 := hid hNm2
            obtain ⟨x, hx⟩ : ∃ x, x = it r 0 := ⟨_, rfl⟩
            rw [← hx] at HPO HKW HFX HBY HRT
            obtain ⟨p0, p1, p2⟩ := x
            obtain ⟨y0, y1', y2⟩ := y
            unfold itv at HPO
            dsimp only at *
            have hki2 : (k2 : Int) < (n : Int) := by omega
            have HPL := hid hp
            have HRK := hid hrk
            have HC2 := hid hc2
            have hzg : g7 < z2.heap.size := (Array.getElem?_eq_some_iff.1 hG2).1
            have hzs : ms < z2.heap.size := hS2.lt
            clear hx hR2 hH2 hS2 hF2 ho2 hG2 hB7 hB2 hNg2 hNm2 hxm hp hrk hc2
            go_upto_region 18 with (first | (go_at_call 11; (with_reducible refine HPO.out.mono ?_); rintro e z3 ⟨rfl, v3, r3, hr3, hh3, hp3, hk3, ho3⟩; have HR3 := hid hr3; have HH3 := hid hh3; have HP3 := hid hp3; have HK3 := hid hk3; have HO3 := hid ho3; clear hr3 hh3 hp3 hk3 ho3) | fail)
            obtain ⟨g9, hg9⟩ : ∃ g, g = z3.heap.size := ⟨_, rfl⟩
            obtain ⟨s3, hs3⟩ : ∃ s, s = z3.alloc (.cells #[.int .u32 p0, .int .u8 p1, .int .u32 p2] 32) := ⟨_, rfl⟩
            have hb3 : Below z3.heap.size z3 s3 := by rw [hs3]; exact (Below.refl _ _).alloc (Nat.le_refl _) _
            have hG9 : s3.heap[g9]? = some (.cells (cel (p0, p1, p2)).toArray 32 (0, 0)) := by rw [hs3, hg9]; exact heap_alloc_new _ _
            have hz3 := HK3.out.size
            have h7 : s3.heap[g7]? = some (.cells (cel (y0, y1', y2)).toArray 32 (0, 0)) := (hb3.block g7 (by omega)).trans ((HK3.out.block g7 hzg (fun h => by have := HNg2.out g7 h; omega)).trans HG72.out)
            have hS3 : SnF s3 ms c2 F := HS2.out.block ((hb3.block ms (by omega)).trans (HK3.out.block ms hzs HNm2.out))
            have HR4 := hid (HR3.out.below hb3)
            have HB4 := hid (show Below w.heap.size w s3 from (HB2.out.trans (HK3.out.lo HB2.out.size (fun k hk => Nat.le_trans (by omega) (HR2.out.hb k hk)))).trans (hb3.mono (by have := HB2.out.size; omega)))
            rw [← hs3, ← hg9]
            have hgz : g7 < g9 ∧ ms < g9 := by omega
            have HN9 := hid (show ∀ k, Hb b m v3 k → k < g9 from by
              rintro k (e | e | e)
              · have := HR3.out.lt; omega
              · have := HR3.out.mp.lt; omega
              · have := (World.ownsRow.lt HR3.out.own k e).2; omega)
            have HG9 := hid hG9
            have HG7 := hid h7
            have HS3 := hid hS3
            have e90 : s3.cell? ⟨g9, 0, none⟩ = some (.int .u32 p0) := (cell_of_row _ _ _ _ _ _ hG9).trans rfl
            have hlook := hS3.look HKW.out (zero_bool s3)
            rw [HFX.out] at hlook
            have HNg3 := hid (show ∀ k, Hb b m v3 k → k < g7 from by
              rintro k (e | e | e)
              · exact HNg2.out k (.inl e)
              · exact HNg2.out k (.inr (.inl e))
              · exact HNg2.out k (.inr (.inr (by rw [← HO3.out]; exact e))))
            have HNm3 := hid (show ¬ Hb b m v3 ms from by
              rintro (h | h | h)
              · exact HNm2.out (.inl h)
              · exact HNm2.out (.inr (.inl h))
              · exact HNm2.out (.inr (.inr (by rw [← HO3.out]; exact h))))
            have hwl : w.heap.size ≤ ms ∧ w.heap.size ≤ g7 ∧ ms < g7 := by omega
            by_cases hk0 : k2 = 0
            · have d1 : decide ((k2 : Int) > 0) = false := decide_eq_false (by omega)
              have d2 : decide (0 < (k2 : Int)) = false := decide_eq_false (by omega)
              have d3 : decide (0 < k2) = false := decide_eq_false (by omega)
              clear hk0 hs3 hb3 hG9 h7 hS3 hg9
              go_upto_region 20 with (fail)
              obtain ⟨s5, hrun5, hsn5, ht5⟩ := (HS3.out).put (by have := HC2.out; omega) HKW.out false
              rw [if_pos (by rw [HFX.out]; rfl)] at hsn5
              have hq5 := turned_heap ht5
              have h95 := (hq5.2 g9 (by omega)).trans HG9.out
              have h75 := (hq5.2 g7 (by omega)).trans HG7.out
              have HR5 := hid (HR4.out.keeps (S := fun q => q = ms) (turned_keeps (keeps_refl _) ht5 rfl) (fun q hq e => HNm3.out (by rw [← e]; exact hq)))
              have HRF := hid (show RwAt (((s5.setCell ⟨g7, 0, none⟩ (.int .u32 p0)).setCell ⟨g7, 1, none⟩ (.int .u8 p1)).setCell ⟨g7, 2, none⟩ (.int .u32 p2)) lo b v3 m r3 from HR5.out.keeps (S := fun q => q = g7) ((((keeps_refl s5 : Keeps (fun q => q = g7) s5 s5).setCell (p := ⟨g7, 0, none⟩) (fun _ => rfl) _).setCell (p := ⟨g7, 1, none⟩) (fun _ => rfl) _).setCell (p := ⟨g7, 2, none⟩) (fun _ => rfl) _) (fun q hq e => by have := HNg3.out q hq; omega))
              have HSF := hid (show SnF (((s5.setCell ⟨g7, 0, none⟩ (.int .u32 p0)).setCell ⟨g7, 1, none⟩ (.int .u8 p1)).setCell ⟨g7, 2, none⟩ (.int .u32 p2)) ms c2 _ from hsn5.block (((Below.heap_setCell _ _ _ _ (show ms ≠ g7 by omega)).trans (Below.heap_setCell _ _ _ _ (show ms ≠ g7 by omega))).trans (Below.heap_setCell _ _ _ _ (show ms ≠ g7 by omega))))
              have HGF := hid (show (((s5.setCell ⟨g7, 0, none⟩ (.int .u32 p0)).setCell ⟨g7, 1, none⟩ (.int .u8 p1)).setCell ⟨g7, 2, none⟩ (.int .u32 p2)).heap[g7]? = some (.cells (cel (p0, p1, p2)).toArray 32 (0, 0)) from set3_heap h75)
              have HBF := hid (show Below w.heap.size w (((s5.setCell ⟨g7, 0, none⟩ (.int .u32 p0)).setCell ⟨g7, 1, none⟩ (.int .u8 p1)).setCell ⟨g7, 2, none⟩ (.int .u32 p2)) from (((turned_below ht5 HB4.out (by omega)).setCell (p := ⟨g7, 0, none⟩) (by show w.heap.size ≤ g7; omega) _).setCell (p := ⟨g7, 1, none⟩) (by show w.heap.size ≤ g7; omega) _).setCell (p := ⟨g7, 2, none⟩) (by show w.heap.size ≤ g7; omega) _)
              have e9 : s3.cell? ⟨g9, 0, none⟩ = some (.int .u32 p0) := (cell_of_row _ _ _ _ _ _ HG9.out).trans rfl
              have k0 : s5.cell? ⟨g9, 0, none⟩ = some (.int .u32 p0) := (cell_of_row _ _ _ _ _ _ h95).trans rfl
              have k1 : s5.cell? ⟨g9, 1, none⟩ = some (.int .u8 p1) := (cell_of_row _ _ _ _ _ _ h95).trans rfl
              have k2' : s5.cell? ⟨g9, 2, none⟩ = some (.int .u32 p2) := (cell_of_row _ _ _ _ _ _ h95).trans rfl
              have m0 : s5.cell? ⟨g7, 0, none⟩ = some (.int .u32 y0) := (cell_of_row _ _ _ _ _ _ h75).trans rfl
              have m1 : s5.cell? ⟨g7, 1, none⟩ = some (.int .u8 y1') := (cell_of_row _ _ _ _ _ _ h75).trans rfl
              have m2 : s5.cell? ⟨g7, 2, none⟩ = some (.int .u32 y2) := (cell_of_row _ _ _ _ _ _ h75).trans rfl
              have f0 : s5.frozen? ⟨g7, 0, none⟩ = false := frozen_of_row _ _ _ _ _ h75
              have f1 : s5.frozen? ⟨g7, 1, none⟩ = false := frozen_of_row _ _ _ _ _ h75
              have f2 : s5.frozen? ⟨g7, 2, none⟩ = false := frozen_of_row _ _ _ _ _ h75
              clear hsn5 ht5 hq5 h95 h75
              go_wp2_with fail
              go_roundw
              case rel => exact ⟨k2 + 1, v3, r3, (p0, p1, p2), c2, _, by go_num, hlt2, by have h1 := HP3.out.length_eq; rw [List.length_cons] at h1; have := HRK.out; omega, HRF.out, HH3.out, HSF.out, HC2.out, fun z hz => by
                obtain ⟨h1, h2⟩ := (HRT.out r3 HP3.out).2 z hz
                rw [if_neg h1]; exact HF2.out z h2, HO3.out.trans HO2.out, HGF.out, .inr (HRT.out r3 HP3.out).1, HBF.out⟩
              case measure =>
                simp [intOf]; omega
            · have d1 : decide ((k2 : Int) > 0) = true := decide_eq_true (by omega)
              have d2 : decide (0 < (k2 : Int)) = true := decide_eq_true (by omega)
              have d3 : decide (0 < k2) = true := decide_eq_true (by omega)
              have hby := HBY.out.resolve_left hk0
              have HFI := hid (by have h1 := first11_any s3 (y0, y1', y2) (p0, p1, p2); rw [show decide (Bef (y0, y1', y2) (p0, p1, p2)) = true from decide_eq_true hby] at h1; unfold itv at h1; dsimp only at h1; exact h1)
              have e91 : s3.cell? ⟨g9, 1, none⟩ = some (.int .u8 p1) := (cell_of_row _ _ _ _ _ _ hG9).trans rfl
              have e92 : s3.cell? ⟨g9, 2, none⟩ = some (.int .u32 p2) := (cell_of_row _ _ _ _ _ _ hG9).trans rfl
              have e70 : s3.cell? ⟨g7, 0, none⟩ = some (.int .u32 y0) := (cell_of_row _ _ _ _ _ _ h7).trans rfl
              have e71 : s3.cell? ⟨g7, 1, none⟩ = some (.int .u8 y1') := (cell_of_row _ _ _ _ _ _ h7).trans rfl
              have e72 : s3.cell? ⟨g7, 2, none⟩ = some (.int .u32 y2) := (cell_of_row _ _ _ _ _ _ h7).trans rfl
              have hsg : g9 < s3.heap.size := (Array.getElem?_eq_some_iff.1 hG9).1
              clear hk0 hs3 hb3 hG9 h7 hS3 hby hg9
              go_upto_region 20 with (first | (go_at_call 18; (with_reducible refine HFI.out.mono ?_); rintro e z5 ⟨rfl, hb5⟩; have HG95 := hid ((hb5.block g9 (by omega)).trans HG9.out); have HG75 := hid ((hb5.block g7 (by omega)).trans HG7.out); have HS5 := hid (HS3.out.block (hb5.block ms (by omega))); have HR45 := hid (HR4.out.below hb5); have HB45 := hid (HB4.out.trans (hb5.mono (by have := HB4.out.size; omega))); clear hb5) | fail)
              obtain ⟨s5, hrun5, hsn5, ht5⟩ := (HS5.out).put (by have := HC2.out; omega) HKW.out false
              rw [if_pos (by rw [HFX.out]; rfl)] at hsn5
              have hq5 := turned_heap ht5
              have h95 := (hq5.2 g9 (by omega)).trans HG95.out
              have h75 := (hq5.2 g7 (by omega)).trans HG75.out
              have HR5 := hid (HR45.out.keeps (S := fun q => q = ms) (turned_keeps (keeps_refl _) ht5 rfl) (fun q hq e => HNm3.out (by rw [← e]; exact hq)))
              have HRF := hid (show RwAt (((s5.setCell ⟨g7, 0, none⟩ (.int .u32 p0)).setCell ⟨g7, 1, none⟩ (.int .u8 p1)).setCell ⟨g7, 2, none⟩ (.int .u32 p2)) lo b v3 m r3 from HR5.out.keeps (S := fun q => q = g7) ((((keeps_refl s5 : Keeps (fun q => q = g7) s5 s5).setCell (p := ⟨g7, 0, none⟩) (fun _ => rfl) _).setCell (p := ⟨g7, 1, none⟩) (fun _ => rfl) _).setCell (p := ⟨g7, 2, none⟩) (fun _ => rfl) _) (fun q hq e => by have := HNg3.out q hq; omega))
              have HSF := hid (show SnF (((s5.setCell ⟨g7, 0, none⟩ (.int .u32 p0)).setCell ⟨g7, 1, none⟩ (.int .u8 p1)).setCell ⟨g7, 2, none⟩ (.int .u32 p2)) ms c2 _ from hsn5.block (((Below.heap_setCell _ _ _ _ (show ms ≠ g7 by omega)).trans (Below.heap_setCell _ _ _ _ (show ms ≠ g7 by omega))).trans (Below.heap_setCell _ _ _ _ (show ms ≠ g7 by omega))))
              have HGF := hid (show (((s5.setCell ⟨g7, 0, none⟩ (.int .u32 p0)).setCell ⟨g7, 1, none⟩ (.int .u8 p1)).setCell ⟨g7, 2, none⟩ (.int .u32 p2)).heap[g7]? = some (.cells (cel (p0, p1, p2)).toArray 32 (0, 0)) from set3_heap h75)
              have HBF := hid (show Below w.heap.size w (((s5.setCell ⟨g7, 0, none⟩ (.int .u32 p0)).setCell ⟨g7, 1, none⟩ (.int .u8 p1)).setCell ⟨g7, 2, none⟩ (.int .u32 p2)) from (((turned_below ht5 HB45.out (by omega)).setCell (p := ⟨g7, 0, none⟩) (by show w.heap.size ≤ g7; omega) _).setCell (p := ⟨g7, 1, none⟩) (by show w.heap.size ≤ g7; omega) _).setCell (p := ⟨g7, 2, none⟩) (by show w.heap.size ≤ g7; omega) _)
              have e9 : z5.cell? ⟨g9, 0, none⟩ = some (.int .u32 p0) := (cell_of_row _ _ _ _ _ _ HG95.out).trans rfl
              have k0 : s5.cell? ⟨g9, 0, none⟩ = some (.int .u32 p0) := (cell_of_row _ _ _ _ _ _ h95).trans rfl
              have k1 : s5.cell? ⟨g9, 1, none⟩ = some (.int .u8 p1) := (cell_of_row _ _ _ _ _ _ h95).trans rfl
              have k2' : s5.cell? ⟨g9, 2, none⟩ = some (.int .u32 p2) := (cell_of_row _ _ _ _ _ _ h95).trans rfl
              have m0 : s5.cell? ⟨g7, 0, none⟩ = some (.int .u32 y0) := (cell_of_row _ _ _ _ _ _ h75).trans rfl
              have m1 : s5.cell? ⟨g7, 1, none⟩ = some (.int .u8 y1') := (cell_of_row _ _ _ _ _ _ h75).trans rfl
              have m2 : s5.cell? ⟨g7, 2, none⟩ = some (.int .u32 y2) := (cell_of_row _ _ _ _ _ _ h75).trans rfl
              have f0 : s5.frozen? ⟨g7, 0, none⟩ = false := frozen_of_row _ _ _ _ _ h75
              have f1 : s5.frozen? ⟨g7, 1, none⟩ = false := frozen_of_row _ _ _ _ _ h75
              have f2 : s5.frozen? ⟨g7, 2, none⟩ = false := frozen_of_row _ _ _ _ _ h75
              clear hsn5 ht5 hq5 h95 h75
              go_wp2_with fail
              go_roundw
              case rel => exact ⟨k2 + 1, v3, r3, (p0, p1, p2), c2, _, by go_num, hlt2, by have h1 := HP3.out.length_eq; rw [List.length_cons] at h1; have := HRK.out; omega, HRF.out, HH3.out, HSF.out, HC2.out, fun z hz => by
                obtain ⟨h1, h2⟩ := (HRT.out r3 HP3.out).2 z hz
                rw [if_neg h1]; exact HF2.out z h2, HO3.out.trans HO2.out, HGF.out, .inr (HRT.out r3 HP3.out).1, HBF.out⟩
              case measure =>
                simp [intOf]; omega
          · have e : k2 = n := by omega
            have hki2 : ¬ (k2 : Int) < (n : Int) := by omega
            have hr0 : r = [] := List.eq_nil_of_length_eq_zero (by omega)
            subst hr0
            have HL0 := hid (len11_any z2 lo b m v2 [] hR2)
            clear hR2 hH2 hS2 hF2 ho2 hG2 hB7 hB2 hlt2 e hrk
            go_wp2_with (first | (go_at_call 19; (with_reducible refine HL0.out.mono ?_); rintro e z3 ⟨rfl, rfl⟩) | fail)
            go_ret
            exact ⟨rfl, HB2.out⟩
      · have d1 : decide ((k : Int) ≥ 100) = false := decide_eq_false (by omega)
        have d2 : decide ((100 : Int) ≤ (k : Int)) = false := decide_eq_false (by omega)
        have HKK := hid (And.intro hk1 (And.intro hk h100))
        clear h100 hk1 hk
        go_wp2_with fail
        rw [← hy1]
        have HRy := hid (HRk.out.below HY1.out)
        have HSy := hid (HSk.out.block (w' := y1) (HY1.out.block ms (by omega)))
        have hys : wr.heap.size < y1.heap.size := (Array.getElem?_eq_some_iff.1 HBX.out).1
        have hmy : ms < y1.heap.size := by omega
        have hRl : b < wr.heap.size := HRk.out.lt
        have HNHb := hid (show ¬ Hb b m v wr.heap.size from by
          rintro (h | h | h)
          · omega
          · have := HRk.out.mp.lt; omega
          · have := (World.ownsRow.lt HRk.out.own _ h).2; omega)
        have HNHs := hid (show ¬ Hb b m v ms from by
          rintro (h | h | h)
          · omega
          · omega
          · exact HOk.out ms h rfl)
        by_cases hpl : (plc q t0).isSome = true
        · have HSE := hid (show (seenF q t0).getD false = true by unfold seenF; rw [if_pos hpl]; rfl)
          have HPN := hid (fun W hR => push11_no W lo b m v q (t0, t1, t2) hR HKX.out hpl)
          unfold itv at HPN
          dsimp only at HPN
          refine Orders.begins (C := []) (by kernel_rfl) ?_
          refine Orders.inv_at (I := fun L A a w => ∃ (b0 b1 b2 b3 b4 b5 b6 b7 b8 : Bool) (v24 v25 v26 v27 v28 v29 v30 v31 v32 : Value), L = #[b0, b1, b2, b3, b4, b5, b6, b7, b8] ∧ a = (((((((((A.put (some 24) v24).put (some 25) v25).put (some 26) v26).put (some 27) v27).put (some 28) v28).put (some 29) v29).put (some 30) v30).put (some 31) v31).put (some 32) v32) ∧ Below y1.heap.size y1 w ∧ (b0 = true → v24 = .pointer (some ⟨b, 0, none⟩)) ∧ (b1 = true → v25 = .agg #[.int .u32 t0, .int .u8 t1, .int .u32 t2]) ∧ (b2 = true → v26 = .int .i64 7) ∧ (b3 = true → v27 = .bool false) ∧ (b4 = true → v28 = .map (some ms)) ∧ (b5 = true → v29 = .pointer (some ⟨wr.heap.size, 0, none⟩)) ∧ (b6 = true → v30 = .int .u32 t0) ∧ (b7 = true → v31 = .bool true) ∧ (b8 = true → v32 = .bool false)) ?start ?step ?fin (by kernel_rfl)
          case start => exact ⟨false, false, false, false, false, false, false, false, false, u24, u25, u26, u27, u28, u29, u30, u31, u32, rfl, by simp only [Act.put, List.getElem_toArray, List.getElem_cons_succ, List.getElem_cons_zero, List.setIfInBounds_toArray, List.set_cons_zero, List.set_cons_succ], ((Below.refl _ _).drew), (fun h => Bool.noConfusion h), (fun h => Bool.noConfusion h), (fun h => Bool.noConfusion h), (fun h => Bool.noConfusion h), (fun h => Bool.noConfusion h), (fun h => Bool.noConfusion h), (fun h => Bool.noConfusion h), (fun h => Bool.noConfusion h), (fun h => Bool.noConfusion h)⟩
          case step =>
            rintro L a w' i ⟨b0, b1, b2, b3, b4, b5, b6, b7, b8, v24, v25, v26, v27, v28, v29, v30, v31, v32, rfl, rfl, HW, C0, C1, C2, C3, C4, C5, C6, C7, C8⟩ hi
            have hc := ready_bits 9 (fun bs i => match bs with | [b0, b1, b2, b3, b4, b5, b6, b7, b8] => (((i == 0) && !b0) || (((i == 1) && !b1) || (((i == 2) && !b2 && b0 && b1) || (((i == 3) && !b3 && b2) || (((i == 4) && !b4) || (((i == 5) && !b5) || (((i == 6) && !b6 && b5) || (((i == 7) && !b7 && b4 && b6) || ((i == 8) && !b8 && b3 && b7))))))))) | _ => false) (by kernel_rfl) [b0, b1, b2, b3, b4, b5, b6, b7, b8] rfl hi
            clear hi
            simp only [Bool.or_eq_true, Bool.and_eq_true, beq_iff_eq, Bool.not_eq_true'] at hc
            rcases hc with ⟨rfl, rfl⟩ | ⟨rfl, rfl⟩ | ⟨⟨⟨rfl, rfl⟩, rfl⟩, rfl⟩ | ⟨⟨rfl, rfl⟩, rfl⟩ | ⟨rfl, rfl⟩ | ⟨rfl, rfl⟩ | ⟨⟨rfl, rfl⟩, rfl⟩ | ⟨⟨⟨rfl, rfl⟩, rfl⟩, rfl⟩ | ⟨⟨⟨rfl, rfl⟩, rfl⟩, rfl⟩
            · refine wpOp_shut rfl (fun K' hK => ?_)
              simp only [Act.put, List.getElem_toArray, List.getElem_cons_succ, List.getElem_cons_zero, List.setIfInBounds_toArray, List.set_cons_zero, List.set_cons_succ]
              go_simp
              refine hK.out _ _ ⟨true, b1, b2, b3, b4, b5, b6, b7, b8, (.pointer (some ⟨b, 0, none⟩)), v25, v26, v27, v28, v29, v30, v31, v32, rfl, by simp only [Act.put, List.getElem_toArray, List.getElem_cons_succ, List.getElem_cons_zero, List.setIfInBounds_toArray, List.set_cons_zero, List.set_cons_succ], HW, (fun _ => rfl), C1, C2, C3, C4, C5, C6, C7, C8⟩
            · refine wpOp_shut rfl (fun K' hK => ?_)
              simp only [Act.put, List.getElem_toArray, List.getElem_cons_succ, List.getElem_cons_zero, List.setIfInBounds_toArray, List.set_cons_zero, List.set_cons_succ]
              have hbx : w'.heap[wr.heap.size]? = _ := (HW.block wr.heap.size (by omega)).trans HBX.out
              have e0 : w'.cell? ⟨wr.heap.size, 0, none⟩ = some (.int .u32 t0) := (cell_of_row w' _ _ _ _ _ hbx).trans rfl
              have e1 : w'.cell? ⟨wr.heap.size, 1, none⟩ = some (.int .u8 t1) := (cell_of_row w' _ _ _ _ _ hbx).trans rfl
              have e2 : w'.cell? ⟨wr.heap.size, 2, none⟩ = some (.int .u32 t2) := (cell_of_row w' _ _ _ _ _ hbx).trans rfl
              go_simp
              refine hK.out _ _ ⟨b0, true, b2, b3, b4, b5, b6, b7, b8, v24, (.agg #[.int .u32 t0, .int .u8 t1, .int .u32 t2]), v26, v27, v28, v29, v30, v31, v32, rfl, by simp only [Act.put, List.getElem_toArray, List.getElem_cons_succ, List.getElem_cons_zero, List.setIfInBounds_toArray, List.set_cons_zero, List.set_cons_succ], HW, C0, (fun _ => rfl), C2, C3, C4, C5, C6, C7, C8⟩
            · refine wpOp_shut rfl (fun K' hK => ?_)
              simp only [Act.put, List.getElem_toArray, List.getElem_cons_succ, List.getElem_cons_zero, List.setIfInBounds_toArray, List.set_cons_zero, List.set_cons_succ]
              obtain rfl := C0 rfl
              obtain rfl := C1 rfl
              go_simp
              refine (HPN.out w' (HRy.out.below HW)).mono ?_
              rintro e w2 ⟨rfl, hb2⟩
              refine hK.out _ _ ⟨true, true, true, b3, b4, b5, b6, b7, b8, (.pointer (some ⟨b, 0, none⟩)), (.agg #[.int .u32 t0, .int .u8 t1, .int .u32 t2]), (.int .i64 7), v27, v28, v29, v30, v31, v32, rfl, by simp only [Act.put, List.getElem_toArray, List.getElem_cons_succ, List.getElem_cons_zero, List.setIfInBounds_toArray, List.set_cons_zero, List.set_cons_succ], (HW.trans (hb2.mono HW.size)), C0, C1, (fun _ => rfl), C3, C4, C5, C6, C7, C8⟩
            · refine wpOp_shut rfl (fun K' hK => ?_)
              simp only [Act.put, List.getElem_toArray, List.getElem_cons_succ, List.getElem_cons_zero, List.setIfInBounds_toArray, List.set_cons_zero, List.set_cons_succ]
              obtain rfl := C2 rfl
              go_simp
              refine hK.out _ _ ⟨b0, b1, true, true, b4, b5, b6, b7, b8, v24, v25, (.int .i64 7), (.bool false), v28, v29, v30, v31, v32, rfl, by simp only [Act.put, List.getElem_toArray, List.getElem_cons_succ, List.getElem_cons_zero, List.setIfInBounds_toArray, List.set_cons_zero, List.set_cons_succ], HW, C0, C1, C2, (fun _ => rfl), C4, C5, C6, C7, C8⟩
            · refine wpOp_shut rfl (fun K' hK => ?_)
              simp only [Act.put, List.getElem_toArray, List.getElem_cons_succ, List.getElem_cons_zero, List.setIfInBounds_toArray, List.set_cons_zero, List.set_cons_succ]
              go_simp
              refine hK.out _ _ ⟨b0, b1, b2, b3, true, b5, b6, b7, b8, v24, v25, v26, v27, (.map (some ms)), v29, v30, v31, v32, rfl, by simp only [Act.put, List.getElem_toArray, List.getElem_cons_succ, List.getElem_cons_zero, List.setIfInBounds_toArray, List.set_cons_zero, List.set_cons_succ], HW, C0, C1, C2, C3, (fun _ => rfl), C5, C6, C7, C8⟩
            · refine wpOp_shut rfl (fun K' hK => ?_)
              simp only [Act.put, List.getElem_toArray, List.getElem_cons_succ, List.getElem_cons_zero, List.setIfInBounds_toArray, List.set_cons_zero, List.set_cons_succ]
              go_simp
              refine hK.out _ _ ⟨b0, b1, b2, b3, b4, true, b6, b7, b8, v24, v25, v26, v27, v28, (.pointer (some ⟨wr.heap.size, 0, none⟩)), v30, v31, v32, rfl, by simp only [Act.put, List.getElem_toArray, List.getElem_cons_succ, List.getElem_cons_zero, List.setIfInBounds_toArray, List.set_cons_zero, List.set_cons_succ], HW, C0, C1, C2, C3, C4, (fun _ => rfl), C6, C7, C8⟩
            · refine wpOp_shut rfl (fun K' hK => ?_)
              simp only [Act.put, List.getElem_toArray, List.getElem_cons_succ, List.getElem_cons_zero, List.setIfInBounds_toArray, List.set_cons_zero, List.set_cons_succ]
              obtain rfl := C5 rfl
              have hbx : w'.heap[wr.heap.size]? = _ := (HW.block wr.heap.size (by omega)).trans HBX.out
              have e0 : w'.cell? ⟨wr.heap.size, 0, none⟩ = some (.int .u32 t0) := (cell_of_row w' _ _ _ _ _ hbx).trans rfl
              go_simp
              refine hK.out _ _ ⟨b0, b1, b2, b3, b4, true, true, b7, b8, v24, v25, v26, v27, v28, (.pointer (some ⟨wr.heap.size, 0, none⟩)), (.int .u32 t0), v31, v32, rfl, by simp only [Act.put, List.getElem_toArray, List.getElem_cons_succ, List.getElem_cons_zero, List.setIfInBounds_toArray, List.set_cons_zero, List.set_cons_succ], HW, C0, C1, C2, C3, C4, C5, (fun _ => rfl), C7, C8⟩
            · refine wpOp_shut rfl (fun K' hK => ?_)
              simp only [Act.put, List.getElem_toArray, List.getElem_cons_succ, List.getElem_cons_zero, List.setIfInBounds_toArray, List.set_cons_zero, List.set_cons_succ]
              obtain rfl := C4 rfl
              obtain rfl := C6 rfl
              have hrun := (HSy.out.block (w' := w') (HW.block ms (by omega))).look HKX.out (zero_bool w')
              rw [HSE.out] at hrun
              go_simp
              refine hK.out _ _ ⟨b0, b1, b2, b3, true, b5, true, true, b8, v24, v25, v26, v27, (.map (some ms)), v29, (.int .u32 t0), (.bool true), v32, rfl, by simp only [Act.put, List.getElem_toArray, List.getElem_cons_succ, List.getElem_cons_zero, List.setIfInBounds_toArray, List.set_cons_zero, List.set_cons_succ], HW, C0, C1, C2, C3, C4, C5, C6, (fun _ => rfl), C8⟩
            · refine wpOp_shut rfl (fun K' hK => ?_)
              simp only [Act.put, List.getElem_toArray, List.getElem_cons_succ, List.getElem_cons_zero, List.setIfInBounds_toArray, List.set_cons_zero, List.set_cons_succ]
              obtain rfl := C3 rfl
              obtain rfl := C7 rfl
              go_simp
              refine hK.out _ _ ⟨b0, b1, b2, true, b4, b5, b6, true, true, v24, v25, v26, (.bool false), v28, v29, v30, (.bool true), (.bool false), rfl, by simp only [Act.put, List.getElem_toArray, List.getElem_cons_succ, List.getElem_cons_zero, List.setIfInBounds_toArray, List.set_cons_zero, List.set_cons_succ], HW, C0, C1, C2, C3, C4, C5, C6, C7, (fun _ => rfl)⟩
          case fin =>
            rintro L a w' ⟨b0, b1, b2, b3, b4, b5, b6, b7, b8, v24, v25, v26, v27, v28, v29, v30, v31, v32, rfl, rfl, HW, C0, C1, C2, C3, C4, C5, C6, C7, C8⟩ hr
            have hz : b0 = true ∧ b1 = true ∧ b2 = true ∧ b3 = true ∧ b4 = true ∧ b5 = true ∧ b6 = true ∧ b7 = true ∧ b8 = true := ready_end 9 (fun bs => match bs with | [b0, b1, b2, b3, b4, b5, b6, b7, b8] => b0 && b1 && b2 && b3 && b4 && b5 && b6 && b7 && b8 | _ => false) (by kernel_rfl) [b0, b1, b2, b3, b4, b5, b6, b7, b8] rfl hr |> fun h => (by simpa only [Bool.and_eq_true, and_assoc] using h)
            obtain ⟨rfl, rfl, rfl, rfl, rfl, rfl, rfl, rfl, rfl⟩ := hz
            clear hr
            simp only [Act.put, List.getElem_toArray, List.getElem_cons_succ, List.getElem_cons_zero, List.setIfInBounds_toArray, List.set_cons_zero, List.set_cons_succ]
            obtain rfl := C8 rfl
            obtain rfl := C5 rfl
            obtain rfl := C4 rfl
            have hbx : w'.heap[wr.heap.size]? = _ := (HW.block wr.heap.size (by omega)).trans HBX.out
            have e0 : w'.cell? ⟨wr.heap.size, 0, none⟩ = some (.int .u32 t0) := (cell_of_row w' _ _ _ _ _ hbx).trans rfl
            obtain ⟨w5, hrun5, hsn5, ht5⟩ := (HSy.out.block (w' := w') (HW.block ms (by omega))).put (by have := HKK.out.1; omega) HKX.out true
            rw [if_pos (by unfold seenF; rw [if_pos hpl]; rfl)] at hsn5
            have HSN := hid (hsn5.ext (G := seenF q) fun z _ => seen_again hpl z)
            have hrw := HRy.out.below HW
            have hnh := HNHs.out
            have hho := HHk.out
            have how := HOk.out
            have hbw : Below w.heap.size w w' := (HBk.out.trans (HY1.out.mono hsw)).trans (HW.mono (by have := HY1.out.size; omega))
            have HRF := hid (hrw.keeps (S := fun p => p = ms) (turned_keeps (keeps_refl _) ht5 rfl) (fun p hp e => hnh (by rw [← e]; exact hp)))
            have HHF := hid hho
            have HOF := hid how
            have HBF := hid (turned_below ht5 hbw (by omega))
            have HQL := hid (show q.length ≤ k + 1 by omega)
            clear C0 C1 C2 C3 C6 C7 hbx hsn5 ht5 hrw hho how hbw hnh
            clear HW
            go_wp2_with fail
            go_roundw
            case rel => exact ⟨k + 1, _, _, by go_num, hlt, by have := HKK.out; omega, HRF.out, HHF.out, HQL.out, HSN.out, HOF.out, HBF.out⟩
            case measure => simp [intOf]; omega
        · have hpn : plc q t0 = none := by cases h : plc q t0 with | none => rfl | some _ => rw [h] at hpl; exact absurd rfl hpl
          have HSE := hid (show (seenF q t0).getD false = false by unfold seenF; rw [if_neg hpl]; rfl)
          have HPY := hid (fun W hR (hs : y1.heap.size ≤ W.heap.size) => push11_yes W lo b m v q (t0, t1, t2) hR HHk.out HKX.out hpn (by have := HKK.out.1; omega) (by omega))
          unfold itv at HPY
          dsimp only at HPY
          refine Orders.begins (C := []) (by kernel_rfl) ?_
          refine Orders.inv_at (I := fun L A a w => ∃ (b0 b1 b2 b3 b4 b5 b6 b7 b8 : Bool) (v24 v25 v26 v27 v28 v29 v30 v31 v32 : Value), L = #[b0, b1, b2, b3, b4, b5, b6, b7, b8] ∧ a = (((((((((A.put (some 24) v24).put (some 25) v25).put (some 26) v26).put (some 27) v27).put (some 28) v28).put (some 29) v29).put (some 30) v30).put (some 31) v31).put (some 32) v32) ∧ (b2 = false → Below y1.heap.size y1 w) ∧ Keeps (Hb b m v) y1 w ∧ (b2 = true → ∃ v' q', RwAt w lo b v' m q' ∧ HeapN q' q'.length ∧ q'.Perm ((t0, t1, t2) :: q) ∧ ∀ k, v'.ownBlock = some k → v.ownBlock = some k ∨ y1.heap.size ≤ k) ∧ (b0 = true → v24 = .pointer (some ⟨b, 0, none⟩)) ∧ (b1 = true → v25 = .agg #[.int .u32 t0, .int .u8 t1, .int .u32 t2]) ∧ (b2 = true → v26 = .int .i64 0) ∧ (b3 = true → v27 = .bool true) ∧ (b4 = true → v28 = .map (some ms)) ∧ (b5 = true → v29 = .pointer (some ⟨wr.heap.size, 0, none⟩)) ∧ (b6 = true → v30 = .int .u32 t0) ∧ (b7 = true → v31 = .bool false) ∧ (b8 = true → v32 = .bool false)) ?start ?step ?fin (by kernel_rfl)
          case start => exact ⟨false, false, false, false, false, false, false, false, false, u24, u25, u26, u27, u28, u29, u30, u31, u32, rfl, by simp only [Act.put, List.getElem_toArray, List.getElem_cons_succ, List.getElem_cons_zero, List.setIfInBounds_toArray, List.set_cons_zero, List.set_cons_succ], (fun _ => (Below.refl _ _).drew), (⟨rfl, rfl, rfl, Nat.le_refl _, fun _ _ _ => rfl⟩ : Keeps _ y1 y1.drew), (fun h => Bool.noConfusion h), (fun h => Bool.noConfusion h), (fun h => Bool.noConfusion h), (fun h => Bool.noConfusion h), (fun h => Bool.noConfusion h), (fun h => Bool.noConfusion h), (fun h => Bool.noConfusion h), (fun h => Bool.noConfusion h), (fun h => Bool.noConfusion h), (fun h => Bool.noConfusion h)⟩
          case step =>
            rintro L a w' i ⟨b0, b1, b2, b3, b4, b5, b6, b7, b8, v24, v25, v26, v27, v28, v29, v30, v31, v32, rfl, rfl, HB0, HW, HQ, C0, C1, C2, C3, C4, C5, C6, C7, C8⟩ hi
            have hc := ready_bits 9 (fun bs i => match bs with | [b0, b1, b2, b3, b4, b5, b6, b7, b8] => (((i == 0) && !b0) || (((i == 1) && !b1) || (((i == 2) && !b2 && b0 && b1) || (((i == 3) && !b3 && b2) || (((i == 4) && !b4) || (((i == 5) && !b5) || (((i == 6) && !b6 && b5) || (((i == 7) && !b7 && b4 && b6) || ((i == 8) && !b8 && b3 && b7))))))))) | _ => false) (by kernel_rfl) [b0, b1, b2, b3, b4, b5, b6, b7, b8] rfl hi
            clear hi
            simp only [Bool.or_eq_true, Bool.and_eq_true, beq_iff_eq, Bool.not_eq_true'] at hc
            rcases hc with ⟨rfl, rfl⟩ | ⟨rfl, rfl⟩ | ⟨⟨⟨rfl, rfl⟩, rfl⟩, rfl⟩ | ⟨⟨rfl, rfl⟩, rfl⟩ | ⟨rfl, rfl⟩ | ⟨rfl, rfl⟩ | ⟨⟨rfl, rfl⟩, rfl⟩ | ⟨⟨⟨rfl, rfl⟩, rfl⟩, rfl⟩ | ⟨⟨⟨rfl, rfl⟩, rfl⟩, rfl⟩
            · refine wpOp_shut rfl (fun K' hK => ?_)
              simp only [Act.put, List.getElem_toArray, List.getElem_cons_succ, List.getElem_cons_zero, List.setIfInBounds_toArray, List.set_cons_zero, List.set_cons_succ]
              go_simp
              refine hK.out _ _ ⟨true, b1, b2, b3, b4, b5, b6, b7, b8, (.pointer (some ⟨b, 0, none⟩)), v25, v26, v27, v28, v29, v30, v31, v32, rfl, by simp only [Act.put, List.getElem_toArray, List.getElem_cons_succ, List.getElem_cons_zero, List.setIfInBounds_toArray, List.set_cons_zero, List.set_cons_succ], HB0, HW, HQ, (fun _ => rfl), C1, C2, C3, C4, C5, C6, C7, C8⟩
            · refine wpOp_shut rfl (fun K' hK => ?_)
              simp only [Act.put, List.getElem_toArray, List.getElem_cons_succ, List.getElem_cons_zero, List.setIfInBounds_toArray, List.set_cons_zero, List.set_cons_succ]
              have hbx : w'.heap[wr.heap.size]? = _ := (HW.block wr.heap.size (by omega) HNHb.out).trans HBX.out
              have e0 : w'.cell? ⟨wr.heap.size, 0, none⟩ = some (.int .u32 t0) := (cell_of_row w' _ _ _ _ _ hbx).trans rfl
              have e1 : w'.cell? ⟨wr.heap.size, 1, none⟩ = some (.int .u8 t1) := (cell_of_row w' _ _ _ _ _ hbx).trans rfl
              have e2 : w'.cell? ⟨wr.heap.size, 2, none⟩ = some (.int .u32 t2) := (cell_of_row w' _ _ _ _ _ hbx).trans rfl
              go_simp
              refine hK.out _ _ ⟨b0, true, b2, b3, b4, b5, b6, b7, b8, v24, (.agg #[.int .u32 t0, .int .u8 t1, .int .u32 t2]), v26, v27, v28, v29, v30, v31, v32, rfl, by simp only [Act.put, List.getElem_toArray, List.getElem_cons_succ, List.getElem_cons_zero, List.setIfInBounds_toArray, List.set_cons_zero, List.set_cons_succ], HB0, HW, HQ, C0, (fun _ => rfl), C2, C3, C4, C5, C6, C7, C8⟩
            · refine wpOp_shut rfl (fun K' hK => ?_)
              simp only [Act.put, List.getElem_toArray, List.getElem_cons_succ, List.getElem_cons_zero, List.setIfInBounds_toArray, List.set_cons_zero, List.set_cons_succ]
              obtain rfl := C0 rfl
              obtain rfl := C1 rfl
              go_simp
              refine (HPY.out w' (HRy.out.below (HB0 rfl)) (HB0 rfl).size).mono ?_
              rintro e w2 ⟨rfl, v2, q2, hr2, hh2, hp2, hk2, ho2⟩
              refine hK.out _ _ ⟨true, true, true, b3, b4, b5, b6, b7, b8, (.pointer (some ⟨b, 0, none⟩)), (.agg #[.int .u32 t0, .int .u8 t1, .int .u32 t2]), (.int .i64 0), v27, v28, v29, v30, v31, v32, rfl, by simp only [Act.put, List.getElem_toArray, List.getElem_cons_succ, List.getElem_cons_zero, List.setIfInBounds_toArray, List.set_cons_zero, List.set_cons_succ], (fun h => Bool.noConfusion h), (HW.trans hk2), (fun _ => ⟨v2, q2, hr2, hh2, hp2, fun k hk => (ho2 k hk).imp id fun h => Nat.le_trans HW.size h⟩), C0, C1, (fun _ => rfl), C3, C4, C5, C6, C7, C8⟩
            · refine wpOp_shut rfl (fun K' hK => ?_)
              simp only [Act.put, List.getElem_toArray, List.getElem_cons_succ, List.getElem_cons_zero, List.setIfInBounds_toArray, List.set_cons_zero, List.set_cons_succ]
              obtain rfl := C2 rfl
              go_simp
              refine hK.out _ _ ⟨b0, b1, true, true, b4, b5, b6, b7, b8, v24, v25, (.int .i64 0), (.bool true), v28, v29, v30, v31, v32, rfl, by simp only [Act.put, List.getElem_toArray, List.getElem_cons_succ, List.getElem_cons_zero, List.setIfInBounds_toArray, List.set_cons_zero, List.set_cons_succ], HB0, HW, HQ, C0, C1, C2, (fun _ => rfl), C4, C5, C6, C7, C8⟩
            · refine wpOp_shut rfl (fun K' hK => ?_)
              simp only [Act.put, List.getElem_toArray, List.getElem_cons_succ, List.getElem_cons_zero, List.setIfInBounds_toArray, List.set_cons_zero, List.set_cons_succ]
              go_simp
              refine hK.out _ _ ⟨b0, b1, b2, b3, true, b5, b6, b7, b8, v24, v25, v26, v27, (.map (some ms)), v29, v30, v31, v32, rfl, by simp only [Act.put, List.getElem_toArray, List.getElem_cons_succ, List.getElem_cons_zero, List.setIfInBounds_toArray, List.set_cons_zero, List.set_cons_succ], HB0, HW, HQ, C0, C1, C2, C3, (fun _ => rfl), C5, C6, C7, C8⟩
            · refine wpOp_shut rfl (fun K' hK => ?_)
              simp only [Act.put, List.getElem_toArray, List.getElem_cons_succ, List.getElem_cons_zero, List.setIfInBounds_toArray, List.set_cons_zero, List.set_cons_succ]
              go_simp
              refine hK.out _ _ ⟨b0, b1, b2, b3, b4, true, b6, b7, b8, v24, v25, v26, v27, v28, (.pointer (some ⟨wr.heap.size, 0, none⟩)), v30, v31, v32, rfl, by simp only [Act.put, List.getElem_toArray, List.getElem_cons_succ, List.getElem_cons_zero, List.setIfInBounds_toArray, List.set_cons_zero, List.set_cons_succ], HB0, HW, HQ, C0, C1, C2, C3, C4, (fun _ => rfl), C6, C7, C8⟩
            · refine wpOp_shut rfl (fun K' hK => ?_)
              simp only [Act.put, List.getElem_toArray, List.getElem_cons_succ, List.getElem_cons_zero, List.setIfInBounds_toArray, List.set_cons_zero, List.set_cons_succ]
              obtain rfl := C5 rfl
              have hbx : w'.heap[wr.heap.size]? = _ := (HW.block wr.heap.size (by omega) HNHb.out).trans HBX.out
              have e0 : w'.cell? ⟨wr.heap.size, 0, none⟩ = some (.int .u32 t0) := (cell_of_row w' _ _ _ _ _ hbx).trans rfl
              go_simp
              refine hK.out _ _ ⟨b0, b1, b2, b3, b4, true, true, b7, b8, v24, v25, v26, v27, v28, (.pointer (some ⟨wr.heap.size, 0, none⟩)), (.int .u32 t0), v31, v32, rfl, by simp only [Act.put, List.getElem_toArray, List.getElem_cons_succ, List.getElem_cons_zero, List.setIfInBounds_toArray, List.set_cons_zero, List.set_cons_succ], HB0, HW, HQ, C0, C1, C2, C3, C4, C5, (fun _ => rfl), C7, C8⟩
            · refine wpOp_shut rfl (fun K' hK => ?_)
              simp only [Act.put, List.getElem_toArray, List.getElem_cons_succ, List.getElem_cons_zero, List.setIfInBounds_toArray, List.set_cons_zero, List.set_cons_succ]
              obtain rfl := C4 rfl
              obtain rfl := C6 rfl
              have hrun := (HSy.out.block (w' := w') (HW.block ms (by omega) HNHs.out)).look HKX.out (zero_bool w')
              rw [HSE.out] at hrun
              go_simp
              refine hK.out _ _ ⟨b0, b1, b2, b3, true, b5, true, true, b8, v24, v25, v26, v27, (.map (some ms)), v29, (.int .u32 t0), (.bool false), v32, rfl, by simp only [Act.put, List.getElem_toArray, List.getElem_cons_succ, List.getElem_cons_zero, List.setIfInBounds_toArray, List.set_cons_zero, List.set_cons_succ], HB0, HW, HQ, C0, C1, C2, C3, C4, C5, C6, (fun _ => rfl), C8⟩
            · refine wpOp_shut rfl (fun K' hK => ?_)
              simp only [Act.put, List.getElem_toArray, List.getElem_cons_succ, List.getElem_cons_zero, List.setIfInBounds_toArray, List.set_cons_zero, List.set_cons_succ]
              obtain rfl := C3 rfl
              obtain rfl := C7 rfl
              go_simp
              refine hK.out _ _ ⟨b0, b1, b2, true, b4, b5, b6, true, true, v24, v25, v26, (.bool true), v28, v29, v30, (.bool false), (.bool false), rfl, by simp only [Act.put, List.getElem_toArray, List.getElem_cons_succ, List.getElem_cons_zero, List.setIfInBounds_toArray, List.set_cons_zero, List.set_cons_succ], HB0, HW, HQ, C0, C1, C2, C3, C4, C5, C6, C7, (fun _ => rfl)⟩
          case fin =>
            rintro L a w' ⟨b0, b1, b2, b3, b4, b5, b6, b7, b8, v24, v25, v26, v27, v28, v29, v30, v31, v32, rfl, rfl, HB0, HW, HQ, C0, C1, C2, C3, C4, C5, C6, C7, C8⟩ hr
            have hz : b0 = true ∧ b1 = true ∧ b2 = true ∧ b3 = true ∧ b4 = true ∧ b5 = true ∧ b6 = true ∧ b7 = true ∧ b8 = true := ready_end 9 (fun bs => match bs with | [b0, b1, b2, b3, b4, b5, b6, b7, b8] => b0 && b1 && b2 && b3 && b4 && b5 && b6 && b7 && b8 | _ => false) (by kernel_rfl) [b0, b1, b2, b3, b4, b5, b6, b7, b8] rfl hr |> fun h => (by simpa only [Bool.and_eq_true, and_assoc] using h)
            obtain ⟨rfl, rfl, rfl, rfl, rfl, rfl, rfl, rfl, rfl⟩ := hz
            clear hr
            simp only [Act.put, List.getElem_toArray, List.getElem_cons_succ, List.getElem_cons_zero, List.setIfInBounds_toArray, List.set_cons_zero, List.set_cons_succ]
            obtain rfl := C8 rfl
            obtain rfl := C5 rfl
            obtain rfl := C4 rfl
            obtain ⟨v2, q2, hr2, hh2, hp2, ho2⟩ := HQ rfl
            have hl2 := hp2.length_eq
            rw [List.length_cons] at hl2
            have hbx : w'.heap[wr.heap.size]? = _ := (HW.block wr.heap.size (by omega) HNHb.out).trans HBX.out
            have e0 : w'.cell? ⟨wr.heap.size, 0, none⟩ = some (.int .u32 t0) := (cell_of_row w' _ _ _ _ _ hbx).trans rfl
            obtain ⟨w5, hrun5, hsn5, ht5⟩ := (HSy.out.block (w' := w') (HW.block ms (by omega) HNHs.out)).put (by have := HKK.out.1; omega) HKX.out true
            rw [if_neg (by unfold seenF; rw [if_neg hpl]; simp), ← hl2] at hsn5
            have HSN := hid (hsn5.ext (G := seenF q2) fun z _ => seen_more hp2 z)
            have hrw := hr2
            have how : ∀ p, v2.ownBlock = some p → p ≠ ms := fun p hp => by
              rcases ho2 p hp with h | h
              · exact HOk.out p h
              · omega
            have hnh : ¬ Hb b m v2 ms := by
              rintro (h | h | h)
              · omega
              · omega
              · exact how ms h rfl
            have hho := hh2
            have hbw : Below w.heap.size w w' := (HBk.out.trans (HY1.out.mono hsw)).trans (HW.lo (by have := HY1.out.size; omega) (fun k hk => Nat.le_trans (by omega) (HRy.out.hb k hk)))
            have HRF := hid (hrw.keeps (S := fun p => p = ms) (turned_keeps (keeps_refl _) ht5 rfl) (fun p hp e => hnh (by rw [← e]; exact hp)))
            have HHF := hid hho
            have HOF := hid how
            have HBF := hid (turned_below ht5 hbw (by omega))
            have HQL := hid (show q2.length ≤ k + 1 by omega)
            clear C0 C1 C2 C3 C6 C7 hbx hsn5 ht5 hrw hho how hbw hnh
            clear HB0 HW HQ hr2 hh2 hp2 ho2 hl2
            go_wp2_with fail
            go_roundw
            case rel => exact ⟨k + 1, _, _, by go_num, hlt, by have := HKK.out; omega, HRF.out, HHF.out, HQL.out, HSN.out, HOF.out, HBF.out⟩
            case measure => simp [intOf]; omega
    · have e : k = len0 := by omega
      have hki : ¬ (k : Int) < (len0 : Int) := by omega
      clear hlt hR hh hS hown hB e
      go_upto_region 14 with (fail)
      obtain ⟨s1, hs1⟩ : ∃ s, s = wr.alloc (.cells #[.int .u32 0, .int .u8 0, .int .u32 0] 32) := ⟨_, rfl⟩
      have hbs : Below wr.heap.size wr s1 := by rw [hs1]; exact (Below.refl _ _).alloc (Nat.le_refl _) _
      obtain ⟨g7, hg7⟩ : ∃ g, g = wr.heap.size := ⟨_, rfl⟩
      have HG7 := hid (show s1.heap[g7]? = some (.cells (cel (0, 0, 0)).toArray 32 (0, 0)) by rw [hs1, hg7]; exact heap_alloc_new _ _)
      have HRs := hid (HRk.out.below hbs)
      have HSs := hid (show SnF s1 ms q.length (seenF q) from HSk.out.block (hbs.block ms HSk.out.lt))
      have HBs := hid (show Below w.heap.size w s1 from HBk.out.trans (hbs.mono HBk.out.size))
      have hNg : ∀ k, Hb b m v k → k < g7 := by
        rintro k (e | e | e)
        · have := HRk.out.lt; omega
        · have := HRk.out.mp.lt; omega
        · have := (World.ownsRow.lt HRk.out.own k e).2; omega
      have hmg : ms < g7 := by have := HSk.out.lt; omega
      have HNg := hid hNg
      rw [← hs1, ← hg7]
      have hlen := HSs.out.len
      obtain ⟨n, hn⟩ : ∃ n, n = q.length := ⟨_, rfl⟩
      rw [← hn] at hlen
      have HNN := hid hn
      have hnl : n ≤ len0 := by rw [hn]; exact HQ0.out
      have HLEN := hid (show q.length ≤ 10000 from HRk.out.len)
      clear hs1 hbs hg7 hNg hn
      go_wp2_with fail
      clear hlen
      go_loopw [39] (fun i wr => ∃ (k : Nat) (v' : Value) (r : List It) (y : It) (c : Nat) (F : Int → Option Bool), i = .int .i64 k ∧ k ≤ n ∧ r.length + k = n ∧ RwAt wr lo b v' m r ∧ HeapN r r.length ∧ SnF wr ms c F ∧ c ≤ 10000 ∧ (∀ z, (plc r z).isSome = true → F z = some true) ∧ v'.ownBlock = v.ownBlock ∧ wr.heap[g7]? = some (.cells (cel y).toArray 32 (0, 0)) ∧ (k = 0 ∨ ∀ x ∈ r, Bef y x) ∧ Below w.heap.size w wr) (fun i _ => n - (intOf i).toNat)
      case atStart => exact ⟨0, v, q, (0, 0, 0), q.length, seenF q, rfl, Nat.zero_le _, by have := HNN.out; omega, HRs.out, HHk.out, HSs.out, HLEN.out, fun z hz => by unfold seenF; rw [if_pos hz], rfl, HG7.out, .inl rfl, HBs.out⟩
      case round =>
        obtain ⟨z2, hz2⟩ : ∃ y, y = wr := ⟨_, rfl⟩
        subst hz2
        obtain ⟨k2, v2, r, y, c2, F, rfl, hk2, hrk, hR2, hH2, hS2, hc2, hF2, ho2, hG2, hB7, hB2⟩ := hrel
        have HB2 := hid hB2
        by_cases hlt2 : k2 < n
        · obtain ⟨p, hp⟩ : ∃ p, r.length = p + 1 := ⟨r.length - 1, by omega⟩
          have HPO := hid (pop11_yes z2 lo b m v2 r p hR2 hH2 hp)
          have hxm : it r 0 ∈ r := it_mem (by omega)
          have HKW := hid (hR2.ok _ hxm)
          have HFX := hid (hF2 (it r 0).1 (plc_mem.2 ⟨_, hxm, rfl⟩))
          have HBY := hid (hB7.imp id fun h => h _ hxm)
          have HRT := hid (show ∀ q3 : List It, (it r 0 :: q3).Perm r → (∀ x ∈ q3, Bef (it r 0) x) ∧ (∀ z, (plc q3 z).isSome = true → z ≠ (it r 0).1 ∧ (plc r z).isSome = true) from fun q3 hq3 => by
            have hid3 : IdsApart (it r 0 :: q3) := hR2.ids.perm hq3.symm
            unfold IdsApart at hid3
            rw [List.map_cons, List.nodup_cons] at hid3
            refine ⟨fun x hx => ?_, fun z hz => ?_⟩
            · have hxr : x ∈ r := hq3.mem_iff.1 (List.mem_cons_of_mem _ hx)
              obtain ⟨j, hj⟩ := List.getElem?_of_mem hxr
              have h1 := hH2.root j (List.getElem?_eq_some_iff.1 hj).1
              rw [it_get hj] at h1
              have hne : it r 0 ≠ x := fun e => hid3.1 (by rw [e]; exact List.mem_map_of_mem hx)
              rcases bef_total hne with h | h
              · exact h
              · exact absurd h h1
            · obtain ⟨x, hx, ex⟩ := plc_mem.1 hz
              exact ⟨fun e => hid3.1 (by rw [← e, ← ex]; exact List.mem_map_of_mem hx), plc_mem.2 ⟨x, hq3.mem_iff.1 (List.mem_cons_of_mem _ hx), ex⟩⟩)
          have HO2 := hid ho2
          have HS2 := hid hS2
          have HF2 := hid hF2
          have HR2 := hid hR2
          have HG72 := hid hG2
          have hNg2 : ∀ k, Hb b m v2 k → k < g7 := by
            rintro k (e | e | e)
            · exact HNg.out k (.inl e)
            · exact HNg.out k (.inr (.inl e))
            · exact HNg.out k (.inr (.inr (by rw [← HO2.out]; exact e)))
          have hNm2 : ¬ Hb b m v2 ms := by
            rintro (h | h | h)
            · omega
            · omega
            · exact HOk.out ms (by rw [← HO2.out]; exact h) rfl
          have HNg2 := hid hNg2
          have HNm2 := hid hNm2
          obtain ⟨x, hx⟩ : ∃ x, x = it r 0 := ⟨_, rfl⟩
          rw [← hx] at HPO HKW HFX HBY HRT
          obtain ⟨p0, p1, p2⟩ := x
          obtain ⟨y0, y1', y2⟩ := y
          unfold itv at HPO
          dsimp only at *
          have hki2 : (k2 : Int) < (n : Int) := by omega
          have HPL := hid hp
          have HRK := hid hrk
          have HC2 := hid hc2
          have hzg : g7 < z2.heap.size := (Array.getElem?_eq_some_iff.1 hG2).1
          have hzs : ms < z2.heap.size := hS2.lt
          clear hx hR2 hH2 hS2 hF2 ho2 hG2 hB7 hB2 hNg2 hNm2 hxm hp hrk hc2
          go_upto_region 18 with (first | (go_at_call 11; (with_reducible refine HPO.out.mono ?_); rintro e z3 ⟨rfl, v3, r3, hr3, hh3, hp3, hk3, ho3⟩; have HR3 := hid hr3; have HH3 := hid hh3; have HP3 := hid hp3; have HK3 := hid hk3; have HO3 := hid ho3; clear hr3 hh3 hp3 hk3 ho3) | fail)
          obtain ⟨g9, hg9⟩ : ∃ g, g = z3.heap.size := ⟨_, rfl⟩
          obtain ⟨s3, hs3⟩ : ∃ s, s = z3.alloc (.cells #[.int .u32 p0, .int .u8 p1, .int .u32 p2] 32) := ⟨_, rfl⟩
          have hb3 : Below z3.heap.size z3 s3 := by rw [hs3]; exact (Below.refl _ _).alloc (Nat.le_refl _) _
          have hG9 : s3.heap[g9]? = some (.cells (cel (p0, p1, p2)).toArray 32 (0, 0)) := by rw [hs3, hg9]; exact heap_alloc_new _ _
          have hz3 := HK3.out.size
          have h7 : s3.heap[g7]? = some (.cells (cel (y0, y1', y2)).toArray 32 (0, 0)) := (hb3.block g7 (by omega)).trans ((HK3.out.block g7 hzg (fun h => by have := HNg2.out g7 h; omega)).trans HG72.out)
          have hS3 : SnF s3 ms c2 F := HS2.out.block ((hb3.block ms (by omega)).trans (HK3.out.block ms hzs HNm2.out))
          have HR4 := hid (HR3.out.below hb3)
          have HB4 := hid (show Below w.heap.size w s3 from (HB2.out.trans (HK3.out.lo HB2.out.size (fun k hk => Nat.le_trans (by omega) (HR2.out.hb k hk)))).trans (hb3.mono (by have := HB2.out.size; omega)))
          rw [← hs3, ← hg9]
          have hgz : g7 < g9 ∧ ms < g9 := by omega
          have HN9 := hid (show ∀ k, Hb b m v3 k → k < g9 from by
            rintro k (e | e | e)
            · have := HR3.out.lt; omega
            · have := HR3.out.mp.lt; omega
            · have := (World.ownsRow.lt HR3.out.own k e).2; omega)
          have HG9 := hid hG9
          have HG7 := hid h7
          have HS3 := hid hS3
          have e90 : s3.cell? ⟨g9, 0, none⟩ = some (.int .u32 p0) := (cell_of_row _ _ _ _ _ _ hG9).trans rfl
          have hlook := hS3.look HKW.out (zero_bool s3)
          rw [HFX.out] at hlook
          have HNg3 := hid (show ∀ k, Hb b m v3 k → k < g7 from by
            rintro k (e | e | e)
            · exact HNg2.out k (.inl e)
            · exact HNg2.out k (.inr (.inl e))
            · exact HNg2.out k (.inr (.inr (by rw [← HO3.out]; exact e))))
          have HNm3 := hid (show ¬ Hb b m v3 ms from by
            rintro (h | h | h)
            · exact HNm2.out (.inl h)
            · exact HNm2.out (.inr (.inl h))
            · exact HNm2.out (.inr (.inr (by rw [← HO3.out]; exact h))))
          have hwl : w.heap.size ≤ ms ∧ w.heap.size ≤ g7 ∧ ms < g7 := by omega
          by_cases hk0 : k2 = 0
          · have d1 : decide ((k2 : Int) > 0) = false := decide_eq_false (by omega)
            have d2 : decide (0 < (k2 : Int)) = false := decide_eq_false (by omega)
            have d3 : decide (0 < k2) = false := decide_eq_false (by omega)
            clear hk0 hs3 hb3 hG9 h7 hS3 hg9
            go_upto_region 20 with (fail)
            obtain ⟨s5, hrun5, hsn5, ht5⟩ := (HS3.out).put (by have := HC2.out; omega) HKW.out false
            rw [if_pos (by rw [HFX.out]; rfl)] at hsn5
            have hq5 := turned_heap ht5
            have h95 := (hq5.2 g9 (by omega)).trans HG9.out
            have h75 := (hq5.2 g7 (by omega)).trans HG7.out
            have HR5 := hid (HR4.out.keeps (S := fun q => q = ms) (turned_keeps (keeps_refl _) ht5 rfl) (fun q hq e => HNm3.out (by rw [← e]; exact hq)))
            have HRF := hid (show RwAt (((s5.setCell ⟨g7, 0, none⟩ (.int .u32 p0)).setCell ⟨g7, 1, none⟩ (.int .u8 p1)).setCell ⟨g7, 2, none⟩ (.int .u32 p2)) lo b v3 m r3 from HR5.out.keeps (S := fun q => q = g7) ((((keeps_refl s5 : Keeps (fun q => q = g7) s5 s5).setCell (p := ⟨g7, 0, none⟩) (fun _ => rfl) _).setCell (p := ⟨g7, 1, none⟩) (fun _ => rfl) _).setCell (p := ⟨g7, 2, none⟩) (fun _ => rfl) _) (fun q hq e => by have := HNg3.out q hq; omega))
            have HSF := hid (show SnF (((s5.setCell ⟨g7, 0, none⟩ (.int .u32 p0)).setCell ⟨g7, 1, none⟩ (.int .u8 p1)).setCell ⟨g7, 2, none⟩ (.int .u32 p2)) ms c2 _ from hsn5.block (((Below.heap_setCell _ _ _ _ (show ms ≠ g7 by omega)).trans (Below.heap_setCell _ _ _ _ (show ms ≠ g7 by omega))).trans (Below.heap_setCell _ _ _ _ (show ms ≠ g7 by omega))))
            have HGF := hid (show (((s5.setCell ⟨g7, 0, none⟩ (.int .u32 p0)).setCell ⟨g7, 1, none⟩ (.int .u8 p1)).setCell ⟨g7, 2, none⟩ (.int .u32 p2)).heap[g7]? = some (.cells (cel (p0, p1, p2)).toArray 32 (0, 0)) from set3_heap h75)
            have HBF := hid (show Below w.heap.size w (((s5.setCell ⟨g7, 0, none⟩ (.int .u32 p0)).setCell ⟨g7, 1, none⟩ (.int .u8 p1)).setCell ⟨g7, 2, none⟩ (.int .u32 p2)) from (((turned_below ht5 HB4.out (by omega)).setCell (p := ⟨g7, 0, none⟩) (by show w.heap.size ≤ g7; omega) _).setCell (p := ⟨g7, 1, none⟩) (by show w.heap.size ≤ g7; omega) _).setCell (p := ⟨g7, 2, none⟩) (by show w.heap.size ≤ g7; omega) _)
            have e9 : s3.cell? ⟨g9, 0, none⟩ = some (.int .u32 p0) := (cell_of_row _ _ _ _ _ _ HG9.out).trans rfl
            have k0 : s5.cell? ⟨g9, 0, none⟩ = some (.int .u32 p0) := (cell_of_row _ _ _ _ _ _ h95).trans rfl
            have k1 : s5.cell? ⟨g9, 1, none⟩ = some (.int .u8 p1) := (cell_of_row _ _ _ _ _ _ h95).trans rfl
            have k2' : s5.cell? ⟨g9, 2, none⟩ = some (.int .u32 p2) := (cell_of_row _ _ _ _ _ _ h95).trans rfl
            have m0 : s5.cell? ⟨g7, 0, none⟩ = some (.int .u32 y0) := (cell_of_row _ _ _ _ _ _ h75).trans rfl
            have m1 : s5.cell? ⟨g7, 1, none⟩ = some (.int .u8 y1') := (cell_of_row _ _ _ _ _ _ h75).trans rfl
            have m2 : s5.cell? ⟨g7, 2, none⟩ = some (.int .u32 y2) := (cell_of_row _ _ _ _ _ _ h75).trans rfl
            have f0 : s5.frozen? ⟨g7, 0, none⟩ = false := frozen_of_row _ _ _ _ _ h75
            have f1 : s5.frozen? ⟨g7, 1, none⟩ = false := frozen_of_row _ _ _ _ _ h75
            have f2 : s5.frozen? ⟨g7, 2, none⟩ = false := frozen_of_row _ _ _ _ _ h75
            clear hsn5 ht5 hq5 h95 h75
            go_wp2_with fail
            go_roundw
            case rel => exact ⟨k2 + 1, v3, r3, (p0, p1, p2), c2, _, by go_num, hlt2, by have h1 := HP3.out.length_eq; rw [List.length_cons] at h1; have := HRK.out; omega, HRF.out, HH3.out, HSF.out, HC2.out, fun z hz => by
              obtain ⟨h1, h2⟩ := (HRT.out r3 HP3.out).2 z hz
              rw [if_neg h1]; exact HF2.out z h2, HO3.out.trans HO2.out, HGF.out, .inr (HRT.out r3 HP3.out).1, HBF.out⟩
            case measure =>
              simp [intOf]; omega
          · have d1 : decide ((k2 : Int) > 0) = true := decide_eq_true (by omega)
            have d2 : decide (0 < (k2 : Int)) = true := decide_eq_true (by omega)
            have d3 : decide (0 < k2) = true := decide_eq_true (by omega)
            have hby := HBY.out.resolve_left hk0
            have HFI := hid (by have h1 := first11_any s3 (y0, y1', y2) (p0, p1, p2); rw [show decide (Bef (y0, y1', y2) (p0, p1, p2)) = true from decide_eq_true hby] at h1; unfold itv at h1; dsimp only at h1; exact h1)
            have e91 : s3.cell? ⟨g9, 1, none⟩ = some (.int .u8 p1) := (cell_of_row _ _ _ _ _ _ hG9).trans rfl
            have e92 : s3.cell? ⟨g9, 2, none⟩ = some (.int .u32 p2) := (cell_of_row _ _ _ _ _ _ hG9).trans rfl
            have e70 : s3.cell? ⟨g7, 0, none⟩ = some (.int .u32 y0) := (cell_of_row _ _ _ _ _ _ h7).trans rfl
            have e71 : s3.cell? ⟨g7, 1, none⟩ = some (.int .u8 y1') := (cell_of_row _ _ _ _ _ _ h7).trans rfl
            have e72 : s3.cell? ⟨g7, 2, none⟩ = some (.int .u32 y2) := (cell_of_row _ _ _ _ _ _ h7).trans rfl
            have hsg : g9 < s3.heap.size := (Array.getElem?_eq_some_iff.1 hG9).1
            clear hk0 hs3 hb3 hG9 h7 hS3 hby hg9
            go_upto_region 20 with (first | (go_at_call 18; (with_reducible refine HFI.out.mono ?_); rintro e z5 ⟨rfl, hb5⟩; have HG95 := hid ((hb5.block g9 (by omega)).trans HG9.out); have HG75 := hid ((hb5.block g7 (by omega)).trans HG7.out); have HS5 := hid (HS3.out.block (hb5.block ms (by omega))); have HR45 := hid (HR4.out.below hb5); have HB45 := hid (HB4.out.trans (hb5.mono (by have := HB4.out.size; omega))); clear hb5) | fail)
            obtain ⟨s5, hrun5, hsn5, ht5⟩ := (HS5.out).put (by have := HC2.out; omega) HKW.out false
            rw [if_pos (by rw [HFX.out]; rfl)] at hsn5
            have hq5 := turned_heap ht5
            have h95 := (hq5.2 g9 (by omega)).trans HG95.out
            have h75 := (hq5.2 g7 (by omega)).trans HG75.out
            have HR5 := hid (HR45.out.keeps (S := fun q => q = ms) (turned_keeps (keeps_refl _) ht5 rfl) (fun q hq e => HNm3.out (by rw [← e]; exact hq)))
            have HRF := hid (show RwAt (((s5.setCell ⟨g7, 0, none⟩ (.int .u32 p0)).setCell ⟨g7, 1, none⟩ (.int .u8 p1)).setCell ⟨g7, 2, none⟩ (.int .u32 p2)) lo b v3 m r3 from HR5.out.keeps (S := fun q => q = g7) ((((keeps_refl s5 : Keeps (fun q => q = g7) s5 s5).setCell (p := ⟨g7, 0, none⟩) (fun _ => rfl) _).setCell (p := ⟨g7, 1, none⟩) (fun _ => rfl) _).setCell (p := ⟨g7, 2, none⟩) (fun _ => rfl) _) (fun q hq e => by have := HNg3.out q hq; omega))
            have HSF := hid (show SnF (((s5.setCell ⟨g7, 0, none⟩ (.int .u32 p0)).setCell ⟨g7, 1, none⟩ (.int .u8 p1)).setCell ⟨g7, 2, none⟩ (.int .u32 p2)) ms c2 _ from hsn5.block (((Below.heap_setCell _ _ _ _ (show ms ≠ g7 by omega)).trans (Below.heap_setCell _ _ _ _ (show ms ≠ g7 by omega))).trans (Below.heap_setCell _ _ _ _ (show ms ≠ g7 by omega))))
            have HGF := hid (show (((s5.setCell ⟨g7, 0, none⟩ (.int .u32 p0)).setCell ⟨g7, 1, none⟩ (.int .u8 p1)).setCell ⟨g7, 2, none⟩ (.int .u32 p2)).heap[g7]? = some (.cells (cel (p0, p1, p2)).toArray 32 (0, 0)) from set3_heap h75)
            have HBF := hid (show Below w.heap.size w (((s5.setCell ⟨g7, 0, none⟩ (.int .u32 p0)).setCell ⟨g7, 1, none⟩ (.int .u8 p1)).setCell ⟨g7, 2, none⟩ (.int .u32 p2)) from (((turned_below ht5 HB45.out (by omega)).setCell (p := ⟨g7, 0, none⟩) (by show w.heap.size ≤ g7; omega) _).setCell (p := ⟨g7, 1, none⟩) (by show w.heap.size ≤ g7; omega) _).setCell (p := ⟨g7, 2, none⟩) (by show w.heap.size ≤ g7; omega) _)
            have e9 : z5.cell? ⟨g9, 0, none⟩ = some (.int .u32 p0) := (cell_of_row _ _ _ _ _ _ HG95.out).trans rfl
            have k0 : s5.cell? ⟨g9, 0, none⟩ = some (.int .u32 p0) := (cell_of_row _ _ _ _ _ _ h95).trans rfl
            have k1 : s5.cell? ⟨g9, 1, none⟩ = some (.int .u8 p1) := (cell_of_row _ _ _ _ _ _ h95).trans rfl
            have k2' : s5.cell? ⟨g9, 2, none⟩ = some (.int .u32 p2) := (cell_of_row _ _ _ _ _ _ h95).trans rfl
            have m0 : s5.cell? ⟨g7, 0, none⟩ = some (.int .u32 y0) := (cell_of_row _ _ _ _ _ _ h75).trans rfl
            have m1 : s5.cell? ⟨g7, 1, none⟩ = some (.int .u8 y1') := (cell_of_row _ _ _ _ _ _ h75).trans rfl
            have m2 : s5.cell? ⟨g7, 2, none⟩ = some (.int .u32 y2) := (cell_of_row _ _ _ _ _ _ h75).trans rfl
            have f0 : s5.frozen? ⟨g7, 0, none⟩ = false := frozen_of_row _ _ _ _ _ h75
            have f1 : s5.frozen? ⟨g7, 1, none⟩ = false := frozen_of_row _ _ _ _ _ h75
            have f2 : s5.frozen? ⟨g7, 2, none⟩ = false := frozen_of_row _ _ _ _ _ h75
            clear hsn5 ht5 hq5 h95 h75
            go_wp2_with fail
            go_roundw
            case rel => exact ⟨k2 + 1, v3, r3, (p0, p1, p2), c2, _, by go_num, hlt2, by have h1 := HP3.out.length_eq; rw [List.length_cons] at h1; have := HRK.out; omega, HRF.out, HH3.out, HSF.out, HC2.out, fun z hz => by
              obtain ⟨h1, h2⟩ := (HRT.out r3 HP3.out).2 z hz
              rw [if_neg h1]; exact HF2.out z h2, HO3.out.trans HO2.out, HGF.out, .inr (HRT.out r3 HP3.out).1, HBF.out⟩
            case measure =>
              simp [intOf]; omega
        · have e : k2 = n := by omega
          have hki2 : ¬ (k2 : Int) < (n : Int) := by omega
          have hr0 : r = [] := List.eq_nil_of_length_eq_zero (by omega)
          subst hr0
          have HL0 := hid (len11_any z2 lo b m v2 [] hR2)
          clear hR2 hH2 hS2 hF2 ho2 hG2 hB7 hB2 hlt2 e hrk
          go_wp2_with (first | (go_at_call 19; (with_reducible refine HL0.out.mono ?_); rintro e z3 ⟨rfl, rfl⟩) | fail)
          go_ret
          exact ⟨rfl, HB2.out⟩

/-! ### THE ROW's STEP -/
set_option maxRecDepth 100000 in
theorem lifted (os : Os) (started : os.Started) (H : Type) (enc : TypeId × Value → H) :
    ReturnsInHanded {} Try.checked os 4 .any (Rows.prioSortsSpec.pre6 enc Try.prog Try.f4 Rows.prioSortsRow.domain false) (Rows.prioSortsSpec.post enc Try.prog Try.f4 false true false false) := by
  refine returnsInHanded_of_change (C := Try.checked) own started (by kernel_rfl) Try.func4
    (ChangeSpec.witness6 (enc := enc) (C := Try.checked) false ⟨#[], #[.slice none 0 0], []⟩ 8 (by kernel_rfl) (by kernel_rfl) (by kernel_rfl) (by kernel_rfl)) ?_
  intro W base args ds gs before hval0 hW hcnd _
  have hval : ∀ (j : Nat) t v, Try.f4.params[j]? = some t → args[j]? = some v → Value.okWide Try.prog W .any base t v := hval0
  have hW' := hW
  obtain ⟨p, q, hA0, hV, rfl, hfz, hnd⟩ := hW
  have hA : DataW.TrodAll enc Try.prog W 0 (fun _ => true) true Try.f4.params.toList args.toList ds p := hA0
  rw [Try.params4] at hA hval
  obtain ⟨v0, vs0, d0, ds0, p0, q0, hargs, rfl, rfl, h0, r0⟩ := trodAll_cons hA
  obtain ⟨rfl, rfl, rfl⟩ := trodAll_nil r0
  obtain rfl : args = #[v0] := by cases args; simp_all
  obtain ⟨rfl, rfl⟩ := trodVars_none hV
  have k0 := h0
  have lt0 : ∀ x ∈ p0, x.block < W.heap.size := by obtain ⟨m, hm⟩ := k0; exact DataW.trod_lt m _ _ _ hm
  obtain ⟨a0, len0, cap0, rfl⟩ := okWide_slice Try.underlying26 (hval 0 26 v0 rfl rfl)
  have w0 : IsItems W a0 len0 cap0 := isItems_of h0
  clear hA0 hval0
  refine (walk a0 len0 cap0 W w0).mono fun e W' ⟨he, bel⟩ => ?_
  subst he
  exact ⟨_, rfl, _, _, _, [], _, [], hW', trodAll_mk1 (shut_bool Try.underlying4 _), (trodAll_cons_mk (Below.trod laidOut (by kernel_rfl) (of_decide_eq_true (by kernel_rfl)) k0 bel lt0) trodAll_mk0), rfl, bel.frame _, fun h => by cases h⟩

theorem over : Rows.prioSortsRow.holds Try.pinned (OpenSpec.ofChange Rows.prioSortsSpec) :=
  OpenClaim.holds_of_wide 4 Try.f4 rfl rfl rfl rfl rfl rfl rfl ⟨rfl, rfl, rfl, rfl, rfl⟩ rfl rfl rfl rfl rfl (by kernel_rfl) Try.func4 (by kernel_rfl)
    (of_decide_eq_true (by kernel_rfl)) (by unfold Func.isWrapper; first | (rw [if_pos (by decide +kernel)]; kernel_rfl) | (rw [if_neg (by decide +kernel)]; exact ⟨rfl, rfl⟩))
    (fun os started H enc _ => lifted os started H enc)

/-- THE STATEMENT -/
theorem prioSorts_holds : Rows.PrioSortsSaid := over
#print axioms prioSorts_holds
end Go.Proofs.Ytbcpcoknlcocdaa.prioSorts
