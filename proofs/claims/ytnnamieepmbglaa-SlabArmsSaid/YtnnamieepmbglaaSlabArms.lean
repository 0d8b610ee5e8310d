/-
  The power goes at just the step that was told, and not ahead of it; behind it nothing is done any more.
  (The frame behind the walk is the guide's shell, at these parameters.)
-/
import Derived.Test.YtnnamieepmbglaaRows
import Derived.WalkKit
import Derived.Test.YtnnamieepmbglaaAwake5
import Derived.Test.YtnnamieepmbglaaAppG
import Derived.Test.YtnnamieepmbglaaSame
import Derived.Test.YtnnamieepmbglaaSlabP
import Derived.ProofKit
import Derived.Deep.Cut
import Derived.Deep.Grids
import Derived.OpenShut
import Derived.ShutString
import Derived.ChangeOld
import Derived.Below
namespace Go.Proofs.Ytnnamieepmbglaa.slabArms
open Go.ChangeShapes Go.WideShapes Go.ChangeAt Go.RowKit
open Go.ChangeMaps (open_string shut_string)
set_option linter.unusedVariables false

theorem own : ownKnob Try.prog.godebug = none := by kernel_rfl
theorem laidOut : laidOutB Try.prog = true := by kernel_rfl


/-- What the walk is told of a slice of bools that came in. -/
def IsBools (w : World) (a : Option Addr) (len cap : Nat) : Prop :=
  (a = none ∧ len = 0 ∧ cap = 0) ∨ ∃ (x : Addr) (B : Nat → Bool), a = some x ∧ len ≤ cap ∧ cap ≤ maxLen ∧ ∀ i, i < cap → w.cell? (x.add i) = some (.bool (B i))

theorem isBools_of {H : Type} {enc : TypeId × Value → H} {w : World} {base : Nat} {held : Bool} {a : Option Addr} {len cap : Nat} {d : DataW H} {p : List MemPlace}
    (h : DataW.Trod enc Try.prog w base (fun _ => true) held 55 (.slice a len cap) d p) : IsBools w a len cap := by
  obtain ⟨fuel, hf⟩ := h
  rcases Go.Deep.open_bools Try.underlying55 Try.underlying4 (by kernel_rfl) hf with ⟨hcs, _⟩ | ⟨x, l, c, B, hcs, _, hl, hm, _, hcell⟩
  · simp [Value.cells] at hcs
    obtain ⟨rfl, rfl, rfl⟩ := hcs
    exact .inl ⟨rfl, rfl, rfl⟩
  · simp [Value.cells] at hcs
    obtain ⟨rfl, rfl, rfl⟩ := hcs
    exact .inr ⟨x, B, rfl, hl, hm, hcell⟩

def AInv (k j : Nat) (s : Sl) : Prop := s.n = 4 ∧ s.off = decide (k ≤ j) ∧ s.armed = k - j ∧ s.steps = min j k ∧ s.way.length ≤ j

theorem AInv.start (k : Nat) : AInv k 0 ((Sl.new 4).arm (k : Int)).1 ∨ k = 0 := by
  by_cases h : k = 0
  · exact .inr h
  · left
    unfold Sl.arm
    rw [if_neg (by omega)]
    refine ⟨rfl, ?_, by show (k : Int).toNat = k - 0; omega, by show 0 = min 0 k; omega, Nat.le_refl 0⟩
    show false = decide (k ≤ 0)
    simp; omega

theorem AInv.flush {k j : Nat} {s : Sl} (h : AInv k j s) : s.flushed.2 = (if j + 1 < k then 0 else 13) ∧ AInv k (j + 1) s.flushed.1 := by
  obtain ⟨h1, h2, h3, h4, h5⟩ := h
  unfold Sl.flushed
  by_cases ho : s.off = true
  · rw [if_pos ho]
    rw [ho] at h2
    have hk : k ≤ j := by simpa using h2.symm
    exact ⟨by rw [if_neg (by omega)], h1, by show s.off = _; rw [ho]; simp; omega, by show s.armed = _; omega, by show s.steps = _; omega, by show s.way.length ≤ _; omega⟩
  · rw [if_neg ho]
    have ho' : s.off = false := by simpa using ho
    have hk : ¬ k ≤ j := by rw [ho'] at h2; simpa using h2.symm
    by_cases ha : s.armed = 1
    · rw [if_pos ha]
      exact ⟨by rw [if_neg (by omega)], h1, by simp [Sl.step, ha]; omega, by simp [Sl.step]; omega, by simp [Sl.step]; omega, by simp only [Sl.step]; omega⟩
    · rw [if_neg ha]
      exact ⟨by rw [if_pos (by omega)], h1, by simp [Sl.step, Sl.flush, ha, ho']; omega, by simp [Sl.step, Sl.flush]; omega, by simp [Sl.step, Sl.flush]; omega, by simp [Sl.step, Sl.flush]⟩

theorem AInv.write {k j : Nat} {s : Sl} (h : AInv k j s) (i : Nat) (hi : i < 4) (p : List UInt8) (hp : p.length ≤ 128) : (s.write (i : Int) p).2 = (if j + 1 < k then 0 else 13) ∧ AInv k (j + 1) (s.write (i : Int) p).1 := by
  obtain ⟨h1, h2, h3, h4, h5⟩ := h
  unfold Sl.write
  rw [if_neg (by simp [Sl.has, h1]; omega), if_neg (by omega)]
  by_cases ho : s.off = true
  · rw [if_pos ho]
    rw [ho] at h2
    have hk : k ≤ j := by simpa using h2.symm
    exact ⟨by rw [if_neg (by omega)], h1, by show s.off = _; rw [ho]; simp; omega, by show s.armed = _; omega, by show s.steps = _; omega, by show s.way.length ≤ _; omega⟩
  · rw [if_neg ho]
    have ho' : s.off = false := by simpa using ho
    have hk : ¬ k ≤ j := by rw [ho'] at h2; simpa using h2.symm
    by_cases ha : s.armed = 1
    · exact ⟨by simp only [Sl.stepE]; rw [if_pos ha, if_neg (by omega)], h1, by simp [Sl.step, Sl.put, ha]; omega, by simp [Sl.step, Sl.put]; omega, by simp [Sl.step, Sl.put]; omega, by simp [Sl.step, Sl.put]; omega⟩
    · exact ⟨by simp only [Sl.stepE]; rw [if_neg ha, if_pos (by omega)], h1, by simp [Sl.step, Sl.put, ha, ho']; omega, by simp [Sl.step, Sl.put]; omega, by simp [Sl.step, Sl.put]; omega, by simp [Sl.step, Sl.put]; omega⟩

set_option maxRecDepth 100000 in
set_option maxHeartbeats 1000000 in
theorem armsc_any (base b bn bd g5 g8 : Nat) (wv : Value) (s : Sl) (j i4 : Nat) (u : UInt8) (w : World) (hrem : (j : Int) % 4 = (i4 : Int)) (hu : (j : Int) = (u.toNat : Int)) (h : SlabAt w base b bn bd wv s) (h5 : w.cell? ⟨g5, 0, none⟩ = some (.pointer (some ⟨b, 0, none⟩))) (h8 : w.cell? ⟨g8, 0, none⟩ = some (.int .i64 (j : Int))) (hj : j < 40) (hst : s.steps ≤ 1000000) (hwy : s.way.length < 1000000) :
    Calls Try.prog 32 #[.pointer (some ⟨g5, 0, none⟩), .pointer (some ⟨g8, 0, none⟩)] w fun e w' => ∃ v', e = .returned (.int .i64 (s.write (i4 : Int) [u]).2) ∧ SlabAt w' base b bn bd v' (s.write (i4 : Int) [u]).1 ∧ Keeps (SlabS b bn bd wv) w w' := by
  have hwr : IntKind.u8.wrap (j : Int) = (j : Int) := by rw [IntKind.wrap_u8]; omega
  have H := hid (h.below ((Below.refl w.heap.size w).alloc (Nat.le_refl _) (.cells #[.int .u8 (j : Int)] 5)))
  have HR := hid (Rd.one w (j : Int) u hu)
  clear h hu
  go_enter Try.func32, Try.ntmps32
  go_wp2_with fail
  refine (write_all base b bn bd wv s (i4 : Int) _ [u] _ H.out hst hwy HR.out).mono ?_
  rintro e w' ⟨v', rfl, h1, h2⟩
  go_wp2
  go_ret
  exact ⟨v', rfl, h1, ((Keeps.refl _ w).alloc _).trans h2⟩

set_option maxRecDepth 100000 in
set_option maxHeartbeats 8000000 in
theorem arms_some (nz : Nat) (hnz : nz < 256) (A2 : Option Addr) (L2 C2 : Nat) (w : World) (w1 : IsBools w A2 L2 C2) :
    Calls Try.prog 6 #[.int .u8 (nz : Int), .slice A2 L2 C2] w fun e w' => e = .returned (.bool true) ∧ Below w.heap.size w w' := by
  have HBO := hid w1
  obtain ⟨k0, hk0⟩ : ∃ k0, k0 = nz % 20 := ⟨_, rfl⟩
  have hkm : (nz : Int) % 20 = (k0 : Int) := by omega
  have hk20 : k0 < 20 := by omega
  have ob : L2 ≤ C2 ∧ C2 ≤ 9223372036854775807 := by
    rcases w1 with ⟨_, rfl, rfl⟩ | ⟨x, B, _, h1, h2, _⟩
    · omega
    · unfold maxLen at h2; omega
  obtain ⟨ob1, ob2⟩ := ob
  clear w1 hk0
  go_enter Try.func6, Try.ntmps6
  go_wp2_with fail
  refine (awake5_any w).mono ?_
  rintro e wa ⟨rfl, hba⟩
  have HBA := hid hba
  have hsa := hba.size
  clear hba
  go_wp2_with fail
  refine (new_yes 4 wa (by omega) (by omega)).mono ?_
  rintro e w1 ⟨b, bn, bd, rfl, n1, hb1⟩
  have H1 := hid (show SlabAt w1 wa.heap.size b bn bd (.slice none 0 0) (Sl.new 4) from n1)
  have B1 := hid (show Below wa.heap.size wa w1 from hb1)
  have hs1 := B1.out.size
  clear n1 hb1
  have hkk : (1 + (k0 : Int)) = ((k0 + 1 : Nat) : Int) := by omega
  have HG0 := hid (heap_alloc_new w1 (.cells #[.pointer (some ⟨b, 0, none⟩)] 24))
  have HA0 := hid (H1.out.below ((Below.refl _ w1).alloc (Nat.le_refl _) (.cells #[.pointer (some ⟨b, 0, none⟩)] 24)))
  have HB0 := hid (B1.out.alloc B1.out.size (.cells #[.pointer (some ⟨b, 0, none⟩)] 24))
  have HKK := hid hkk
  clear hkk
  have hsz0 : w1.heap.size < (w1.alloc (.cells #[.pointer (some ⟨b, 0, none⟩)] 24)).heap.size := by simp
  obtain ⟨w2, hw2⟩ : ∃ w2, w2 = w1.alloc (.cells #[.pointer (some ⟨b, 0, none⟩)] 24) := ⟨_, rfl⟩
  rw [← hw2] at HG0 HA0 HB0 hsz0
  go_wp2_with fail
  rw [← hw2]
  clear hw2
  have HE0 := hid (show ((Sl.new 4).arm (1 + (k0 : Int))).2 = 0 by unfold Sl.arm; rw [if_neg (by omega)])
  refine (arm_all wa.heap.size b bn bd _ (Sl.new 4) (1 + (k0 : Int)) w2 HA0.out (by omega)).mono ?_
  rintro e w3 ⟨rfl, h3, hk3⟩
  rw [HE0.out]
  have H3 := hid h3
  have B3 := hid (HB0.out.trans (HA0.out.keep hk3))
  have HG3 := hid ((hk3.block w1.heap.size hsz0 (SlabAt.apart' HA0.out HG0.out (by decide) (by decide) (by decide))).trans HG0.out)
  have hsz3 : w1.heap.size < w3.heap.size := Nat.lt_of_lt_of_le hsz0 hk3.size
  have HI0 := hid (show AInv (k0 + 1) 0 ((Sl.new 4).arm (1 + (k0 : Int))).1 by
    rw [HKK.out]
    rcases AInv.start (k0 + 1) with h | h
    · exact h
    · omega)
  clear h3 hk3
  go_wp2_with fail
  go_loopw [27] (fun i wr => ∃ (j : Nat) (s : Sl) (wv : Value), j ≤ L2 ∧ j ≤ 40 ∧ i = .int .i64 j ∧ SlabAt wr wa.heap.size b bn bd wv s ∧ AInv (k0 + 1) j s ∧ wr.heap[w1.heap.size]? = some (.cells #[.pointer (some ⟨b, 0, none⟩)] 24 (0, 0)) ∧ w1.heap.size < wr.heap.size ∧ Below wa.heap.size wa wr) (fun i _ => L2 - (intOf i).toNat)
  case atStart => exact ⟨0, _, _, by omega, by omega, rfl, H3.out, HI0.out, HG3.out, hsz3, B3.out⟩
  case round =>
    obtain ⟨j, s, wv, hj1, hj2, rfl, h, hi, hg5, h51, hB⟩ := hrel
    have H := hid h
    have HI := hid hi
    have HB := hid hB
    have HG5 := hid hg5
    have hsr := hB.size
    have HBw := hid (HBA.out.trans (hB.mono hsa))
    have hst1 : s.steps ≤ 1000000 := by have := hi.2.2.2.1; omega
    have hwy1 : s.way.length < 1000000 := by have := hi.2.2.2.2; omega
    clear h hi hB hg5
    by_cases hlt : j < L2
    · rcases HBO.out with ⟨_, hz, _⟩ | ⟨x, BB, eA, _, _, hcs⟩
      · omega
      · have hc0 := hcs j (by omega)
        obtain ⟨ob, off, spot⟩ := x
        have hc00 := hcs 0 (by omega)
        have hs : spot = none := by simpa [Addr.add] using World.cell?_spot hc00
        subst hs
        have hob : ob < w.heap.size := by
          have := World.block_lt_of_cell? _ _ hc00
          simpa [Addr.add] using this
        clear hc00
        rw [Addr.add_lit] at hc0
        subst eA
        have hcell0 := (HBw.out.cell (p := ⟨ob, off + j, none⟩) hob).trans hc0
        obtain ⟨bb, hbb⟩ : ∃ bb, bb = BB j := ⟨_, rfl⟩
        rw [← hbb] at hcell0
        clear hc0 hcs hbb
        by_cases hj40 : j < 40
        · obtain ⟨i4, hi4⟩ : ∃ i4, i4 = j % 4 := ⟨_, rfl⟩
          have hrem : (j : Int) % 4 = (i4 : Int) := by omega
          obtain ⟨u, hu0⟩ : ∃ u, u = UInt8.ofNat j := ⟨_, rfl⟩
          have hu : (j : Int) = (u.toNat : Int) := by rw [hu0, UInt8.toNat_ofNat']; omega
          have HIF := hid (AInv.flush HI.out)
          have HIW := hid (AInv.write HI.out i4 (by omega) [u] (by simp))
          have h40i : (j : Int) < 40 := by omega
          have HU := hid hu
          have HREM := hid hrem
          clear hu0 hi4 hu hrem
          cases bb
          · by_cases hjk : j + 1 < k0 + 1
            · have hjk2 : (j : Int) + 1 < 1 + (k0 : Int) := by omega
              have HE := hid (HIF.out.1.trans (if_pos (by omega)))
              have HOF := hid (show s.flushed.1.off = false by rw [HIF.out.2.2.1]; simp; omega)
              have HST := hid (show ((s.flushed.1.steps : Nat) : Int) = (j : Int) + 1 by rw [HIF.out.2.2.2.2.1]; omega)
              have e5w : (wr.alloc (.cells #[.int .i64 (j : Int)] 3)).cell? ⟨w1.heap.size, 0, none⟩ = some (.pointer (some ⟨b, 0, none⟩)) := (((Below.refl wr.heap.size wr).alloc (Nat.le_refl _) _).cell (p := ⟨w1.heap.size, 0, none⟩) h51).trans ((cell_of_row _ _ _ _ _ _ HG5.out).trans rfl)
              go_wp2_with fail
              clear e5w
              obtain ⟨wo, hwo⟩ : ∃ wo, wo = wr.alloc (.cells #[.int .i64 (j : Int)] 3) := ⟨_, rfl⟩
              have HG8 := hid (show wo.heap[wr.heap.size]? = some (.cells #[.int .i64 (j : Int)] 3 (0, 0)) by rw [hwo]; exact heap_alloc_new wr _)
              have hbo : Below wr.heap.size wr wo := by rw [hwo]; exact (Below.refl _ _).alloc (Nat.le_refl _) _
              have HO := hid (show SlabAt wo.drew wa.heap.size b bn bd wv s from (by have hh := H.out.below hbo; exact hh))
              have HGo := hid ((hbo.block w1.heap.size h51).trans HG5.out)
              have HBOo := hid (HB.out.trans (hbo.mono hsr))
              have hso2 : wr.heap.size < wo.drew.heap.size := by rw [hwo]; show wr.heap.size < (wr.alloc _).heap.size; simp
              have h51o : w1.heap.size < wo.drew.heap.size := by omega
              have e8 : wo.cell? ⟨wr.heap.size, 0, none⟩ = some (.int .i64 (j : Int)) := (cell_of_row _ _ _ _ _ _ HG8.out).trans rfl
              have e5 : wo.cell? ⟨w1.heap.size, 0, none⟩ = some (.pointer (some ⟨b, 0, none⟩)) := (cell_of_row _ _ _ _ _ _ HGo.out).trans rfl
              have HNS8 := hid (SlabAt.apart' (w := wo) HO.out HG8.out (by decide) (by decide) (by decide))
              have HNS5 := hid (SlabAt.apart' (w := wo) HO.out HGo.out (by decide) (by decide) (by decide))
              rw [← hwo]
              clear hwo hbo
              have hwj : IntKind.i64.wrap ((j : Int) + 1) = (j : Int) + 1 := by rw [IntKind.wrap_i64]; omega
              go_region_held3 (fun w' => w'.cell? ⟨wr.heap.size, 0, none⟩ = some (.int .i64 (j : Int)) ∧ w'.cell? ⟨w1.heap.size, 0, none⟩ = some (.pointer (some ⟨b, 0, none⟩)))
                (first | (refine ⟨?_, ?_⟩ <;> assumption) | (refine ⟨(hk5.cell (p := ⟨wr.heap.size, 0, none⟩) hso2 HNS8.out).trans ?_, (hk5.cell (p := ⟨w1.heap.size, 0, none⟩) h51o HNS5.out).trans ?_⟩ <;> assumption) | fail)
                (first | (go_at_call 22; refine (flush_all wa.heap.size b bn bd wv s wo.drew HO.out hst1).mono ?_; rintro e w5 ⟨wv5, rfl, h5, hk5⟩; rw [HE.out]; dsimp only) | (go_at_call 29; refine (on_any wa.heap.size b bn bd wv5 s.flushed.1 w5 h5).mono ?_; rintro e w6 ⟨rfl, rfl⟩; rw [HOF.out]; dsimp only) | (go_at_call 30; refine (steps_any wa.heap.size b bn bd wv5 s.flushed.1 w5 h5).mono ?_; rintro e w6 ⟨rfl, rfl⟩; rw [HST.out]; dsimp only) | fail)
              all_goals
                have HB5 := hid ((HBOo.out.drew).trans (HO.out.keep hk5))
                have hs55 := hk5.size
                have HG55 := hid ((hk5.block w1.heap.size h51o HNS5.out).trans HGo.out)
                clear hk5
                go_wp2_with fail
                go_roundw
                case rel => exact ⟨j + 1, s.flushed.1, wv5, by omega, by omega, by go_num, h5, HIF.out.2, HG55.out, by omega, HB5.out⟩
                case measure => simp [intOf]; omega
            · have hjk2 : ((j : Int) + 1 < 1 + (k0 : Int)) = False := eq_false (by omega)
              have hmin : (if 1 + (k0 : Int) < (j : Int) + 1 then 1 + (k0 : Int) else (j : Int) + 1) = 1 + (k0 : Int) := by split <;> omega
              have HE := hid (HIF.out.1.trans (if_neg (by omega)))
              have HOF := hid (show s.flushed.1.off = true by rw [HIF.out.2.2.1]; simp; omega)
              have HST := hid (show ((s.flushed.1.steps : Nat) : Int) = 1 + (k0 : Int) by rw [HIF.out.2.2.2.2.1]; omega)
              have e5w : (wr.alloc (.cells #[.int .i64 (j : Int)] 3)).cell? ⟨w1.heap.size, 0, none⟩ = some (.pointer (some ⟨b, 0, none⟩)) := (((Below.refl wr.heap.size wr).alloc (Nat.le_refl _) _).cell (p := ⟨w1.heap.size, 0, none⟩) h51).trans ((cell_of_row _ _ _ _ _ _ HG5.out).trans rfl)
              go_wp2_with fail
              clear e5w
              obtain ⟨wo, hwo⟩ : ∃ wo, wo = wr.alloc (.cells #[.int .i64 (j : Int)] 3) := ⟨_, rfl⟩
              have HG8 := hid (show wo.heap[wr.heap.size]? = some (.cells #[.int .i64 (j : Int)] 3 (0, 0)) by rw [hwo]; exact heap_alloc_new wr _)
              have hbo : Below wr.heap.size wr wo := by rw [hwo]; exact (Below.refl _ _).alloc (Nat.le_refl _) _
              have HO := hid (show SlabAt wo.drew wa.heap.size b bn bd wv s from (by have hh := H.out.below hbo; exact hh))
              have HGo := hid ((hbo.block w1.heap.size h51).trans HG5.out)
              have HBOo := hid (HB.out.trans (hbo.mono hsr))
              have hso2 : wr.heap.size < wo.drew.heap.size := by rw [hwo]; show wr.heap.size < (wr.alloc _).heap.size; simp
              have h51o : w1.heap.size < wo.drew.heap.size := by omega
              have e8 : wo.cell? ⟨wr.heap.size, 0, none⟩ = some (.int .i64 (j : Int)) := (cell_of_row _ _ _ _ _ _ HG8.out).trans rfl
              have e5 : wo.cell? ⟨w1.heap.size, 0, none⟩ = some (.pointer (some ⟨b, 0, none⟩)) := (cell_of_row _ _ _ _ _ _ HGo.out).trans rfl
              have HNS8 := hid (SlabAt.apart' (w := wo) HO.out HG8.out (by decide) (by decide) (by decide))
              have HNS5 := hid (SlabAt.apart' (w := wo) HO.out HGo.out (by decide) (by decide) (by decide))
              rw [← hwo]
              clear hwo hbo
              have hwj : IntKind.i64.wrap ((j : Int) + 1) = (j : Int) + 1 := by rw [IntKind.wrap_i64]; omega
              go_region_held3 (fun w' => w'.cell? ⟨wr.heap.size, 0, none⟩ = some (.int .i64 (j : Int)) ∧ w'.cell? ⟨w1.heap.size, 0, none⟩ = some (.pointer (some ⟨b, 0, none⟩)))
                (first | (refine ⟨?_, ?_⟩ <;> assumption) | (refine ⟨(hk5.cell (p := ⟨wr.heap.size, 0, none⟩) hso2 HNS8.out).trans ?_, (hk5.cell (p := ⟨w1.heap.size, 0, none⟩) h51o HNS5.out).trans ?_⟩ <;> assumption) | fail)
                (first | (go_at_call 22; refine (flush_all wa.heap.size b bn bd wv s wo.drew HO.out hst1).mono ?_; rintro e w5 ⟨wv5, rfl, h5, hk5⟩; rw [HE.out]; dsimp only) | (go_at_call 29; refine (on_any wa.heap.size b bn bd wv5 s.flushed.1 w5 h5).mono ?_; rintro e w6 ⟨rfl, rfl⟩; rw [HOF.out]; dsimp only) | (go_at_call 30; refine (steps_any wa.heap.size b bn bd wv5 s.flushed.1 w5 h5).mono ?_; rintro e w6 ⟨rfl, rfl⟩; rw [HST.out]; dsimp only) | fail)
              all_goals
                have HB5 := hid ((HBOo.out.drew).trans (HO.out.keep hk5))
                have hs55 := hk5.size
                have HG55 := hid ((hk5.block w1.heap.size h51o HNS5.out).trans HGo.out)
                clear hk5
                go_wp2_with fail
                go_roundw
                case rel => exact ⟨j + 1, s.flushed.1, wv5, by omega, by omega, by go_num, h5, HIF.out.2, HG55.out, by omega, HB5.out⟩
                case measure => simp [intOf]; omega
          · by_cases hjk : j + 1 < k0 + 1
            · have hjk2 : (j : Int) + 1 < 1 + (k0 : Int) := by omega
              have HE := hid (HIW.out.1.trans (if_pos (by omega)))
              have HOF := hid (show (s.write (i4 : Int) [u]).1.off = false by rw [HIW.out.2.2.1]; simp; omega)
              have HST := hid (show (((s.write (i4 : Int) [u]).1.steps : Nat) : Int) = (j : Int) + 1 by rw [HIW.out.2.2.2.2.1]; omega)
              have e5w : (wr.alloc (.cells #[.int .i64 (j : Int)] 3)).cell? ⟨w1.heap.size, 0, none⟩ = some (.pointer (some ⟨b, 0, none⟩)) := (((Below.refl wr.heap.size wr).alloc (Nat.le_refl _) _).cell (p := ⟨w1.heap.size, 0, none⟩) h51).trans ((cell_of_row _ _ _ _ _ _ HG5.out).trans rfl)
              go_wp2_with fail
              clear e5w
              obtain ⟨wo, hwo⟩ : ∃ wo, wo = wr.alloc (.cells #[.int .i64 (j : Int)] 3) := ⟨_, rfl⟩
              have HG8 := hid (show wo.heap[wr.heap.size]? = some (.cells #[.int .i64 (j : Int)] 3 (0, 0)) by rw [hwo]; exact heap_alloc_new wr _)
              have hbo : Below wr.heap.size wr wo := by rw [hwo]; exact (Below.refl _ _).alloc (Nat.le_refl _) _
              have HO := hid (show SlabAt wo.drew wa.heap.size b bn bd wv s from (by have hh := H.out.below hbo; exact hh))
              have HGo := hid ((hbo.block w1.heap.size h51).trans HG5.out)
              have HBOo := hid (HB.out.trans (hbo.mono hsr))
              have hso2 : wr.heap.size < wo.drew.heap.size := by rw [hwo]; show wr.heap.size < (wr.alloc _).heap.size; simp
              have h51o : w1.heap.size < wo.drew.heap.size := by omega
              have e8 : wo.cell? ⟨wr.heap.size, 0, none⟩ = some (.int .i64 (j : Int)) := (cell_of_row _ _ _ _ _ _ HG8.out).trans rfl
              have e5 : wo.cell? ⟨w1.heap.size, 0, none⟩ = some (.pointer (some ⟨b, 0, none⟩)) := (cell_of_row _ _ _ _ _ _ HGo.out).trans rfl
              have HNS8 := hid (SlabAt.apart' (w := wo) HO.out HG8.out (by decide) (by decide) (by decide))
              have HNS5 := hid (SlabAt.apart' (w := wo) HO.out HGo.out (by decide) (by decide) (by decide))
              rw [← hwo]
              clear hwo hbo
              have hwj : IntKind.i64.wrap ((j : Int) + 1) = (j : Int) + 1 := by rw [IntKind.wrap_i64]; omega
              go_region_held3 (fun w' => w'.cell? ⟨wr.heap.size, 0, none⟩ = some (.int .i64 (j : Int)) ∧ w'.cell? ⟨w1.heap.size, 0, none⟩ = some (.pointer (some ⟨b, 0, none⟩)))
                (first | (refine ⟨?_, ?_⟩ <;> assumption) | (refine ⟨(hk5.cell (p := ⟨wr.heap.size, 0, none⟩) hso2 HNS8.out).trans ?_, (hk5.cell (p := ⟨w1.heap.size, 0, none⟩) h51o HNS5.out).trans ?_⟩ <;> assumption) | fail)
                (first | (go_at_call 32; refine (armsc_any wa.heap.size b bn bd w1.heap.size wr.heap.size wv s j i4 u wo.drew HREM.out HU.out HO.out e5 e8 hj40 hst1 hwy1).mono ?_; rintro e w5 ⟨wv5, rfl, h5, hk5⟩; rw [HE.out]; dsimp only) | (go_at_call 29; refine (on_any wa.heap.size b bn bd wv5 (s.write (i4 : Int) [u]).1 w5 h5).mono ?_; rintro e w6 ⟨rfl, rfl⟩; rw [HOF.out]; dsimp only) | (go_at_call 30; refine (steps_any wa.heap.size b bn bd wv5 (s.write (i4 : Int) [u]).1 w5 h5).mono ?_; rintro e w6 ⟨rfl, rfl⟩; rw [HST.out]; dsimp only) | fail)
              all_goals
                have HB5 := hid ((HBOo.out.drew).trans (HO.out.keep hk5))
                have hs55 := hk5.size
                have HG55 := hid ((hk5.block w1.heap.size h51o HNS5.out).trans HGo.out)
                clear hk5
                go_wp2_with fail
                go_roundw
                case rel => exact ⟨j + 1, (s.write (i4 : Int) [u]).1, wv5, by omega, by omega, by go_num, h5, HIW.out.2, HG55.out, by omega, HB5.out⟩
                case measure => simp [intOf]; omega
            · have hjk2 : ((j : Int) + 1 < 1 + (k0 : Int)) = False := eq_false (by omega)
              have hmin : (if 1 + (k0 : Int) < (j : Int) + 1 then 1 + (k0 : Int) else (j : Int) + 1) = 1 + (k0 : Int) := by split <;> omega
              have HE := hid (HIW.out.1.trans (if_neg (by omega)))
              have HOF := hid (show (s.write (i4 : Int) [u]).1.off = true by rw [HIW.out.2.2.1]; simp; omega)
              have HST := hid (show (((s.write (i4 : Int) [u]).1.steps : Nat) : Int) = 1 + (k0 : Int) by rw [HIW.out.2.2.2.2.1]; omega)
              have e5w : (wr.alloc (.cells #[.int .i64 (j : Int)] 3)).cell? ⟨w1.heap.size, 0, none⟩ = some (.pointer (some ⟨b, 0, none⟩)) := (((Below.refl wr.heap.size wr).alloc (Nat.le_refl _) _).cell (p := ⟨w1.heap.size, 0, none⟩) h51).trans ((cell_of_row _ _ _ _ _ _ HG5.out).trans rfl)
              go_wp2_with fail
              clear e5w
              obtain ⟨wo, hwo⟩ : ∃ wo, wo = wr.alloc (.cells #[.int .i64 (j : Int)] 3) := ⟨_, rfl⟩
              have HG8 := hid (show wo.heap[wr.heap.size]? = some (.cells #[.int .i64 (j : Int)] 3 (0, 0)) by rw [hwo]; exact heap_alloc_new wr _)
              have hbo : Below wr.heap.size wr wo := by rw [hwo]; exact (Below.refl _ _).alloc (Nat.le_refl _) _
              have HO := hid (show SlabAt wo.drew wa.heap.size b bn bd wv s from (by have hh := H.out.below hbo; exact hh))
              have HGo := hid ((hbo.block w1.heap.size h51).trans HG5.out)
              have HBOo := hid (HB.out.trans (hbo.mono hsr))
              have hso2 : wr.heap.size < wo.drew.heap.size := by rw [hwo]; show wr.heap.size < (wr.alloc _).heap.size; simp
              have h51o : w1.heap.size < wo.drew.heap.size := by omega
              have e8 : wo.cell? ⟨wr.heap.size, 0, none⟩ = some (.int .i64 (j : Int)) := (cell_of_row _ _ _ _ _ _ HG8.out).trans rfl
              have e5 : wo.cell? ⟨w1.heap.size, 0, none⟩ = some (.pointer (some ⟨b, 0, none⟩)) := (cell_of_row _ _ _ _ _ _ HGo.out).trans rfl
              have HNS8 := hid (SlabAt.apart' (w := wo) HO.out HG8.out (by decide) (by decide) (by decide))
              have HNS5 := hid (SlabAt.apart' (w := wo) HO.out HGo.out (by decide) (by decide) (by decide))
              rw [← hwo]
              clear hwo hbo
              have hwj : IntKind.i64.wrap ((j : Int) + 1) = (j : Int) + 1 := by rw [IntKind.wrap_i64]; omega
              go_region_held3 (fun w' => w'.cell? ⟨wr.heap.size, 0, none⟩ = some (.int .i64 (j : Int)) ∧ w'.cell? ⟨w1.heap.size, 0, none⟩ = some (.pointer (some ⟨b, 0, none⟩)))
                (first | (refine ⟨?_, ?_⟩ <;> assumption) | (refine ⟨(hk5.cell (p := ⟨wr.heap.size, 0, none⟩) hso2 HNS8.out).trans ?_, (hk5.cell (p := ⟨w1.heap.size, 0, none⟩) h51o HNS5.out).trans ?_⟩ <;> assumption) | fail)
                (first | (go_at_call 32; refine (armsc_any wa.heap.size b bn bd w1.heap.size wr.heap.size wv s j i4 u wo.drew HREM.out HU.out HO.out e5 e8 hj40 hst1 hwy1).mono ?_; rintro e w5 ⟨wv5, rfl, h5, hk5⟩; rw [HE.out]; dsimp only) | (go_at_call 29; refine (on_any wa.heap.size b bn bd wv5 (s.write (i4 : Int) [u]).1 w5 h5).mono ?_; rintro e w6 ⟨rfl, rfl⟩; rw [HOF.out]; dsimp only) | (go_at_call 30; refine (steps_any wa.heap.size b bn bd wv5 (s.write (i4 : Int) [u]).1 w5 h5).mono ?_; rintro e w6 ⟨rfl, rfl⟩; rw [HST.out]; dsimp only) | fail)
              all_goals
                have HB5 := hid ((HBOo.out.drew).trans (HO.out.keep hk5))
                have hs55 := hk5.size
                have HG55 := hid ((hk5.block w1.heap.size h51o HNS5.out).trans HGo.out)
                clear hk5
                go_wp2_with fail
                go_roundw
                case rel => exact ⟨j + 1, (s.write (i4 : Int) [u]).1, wv5, by omega, by omega, by go_num, h5, HIW.out.2, HG55.out, by omega, HB5.out⟩
                case measure => simp [intOf]; omega
        · have hge : (40 : Int) ≤ (j : Int) := by omega
          go_wp2
          go_ret
          exact ⟨rfl, HBw.out.alloc (Nat.le_trans hsa hsr) _⟩
    · obtain rfl : j = L2 := by omega
      go_wp2
      go_ret
      exact ⟨rfl, HBw.out⟩

set_option maxHeartbeats 1000000 in
theorem walk (a0 : Int) (a1 : Option Addr) (len1 cap1 : Nat) (w : World) (w0 : (Lit.int .u8 a0).wf = true) (w1 : IsBools w a1 len1 cap1) :
    Calls Try.prog 6 #[.int .u8 a0, .slice a1 len1 cap1] w fun e w' => e = .returned (.bool true) ∧ Below w.heap.size w w' := by

  have hb := u8_of w0
  obtain ⟨f, hf, _⟩ := hb
  subst hf
  exact arms_some f.toNat f.toNat_lt a1 len1 cap1 w w1

/-! ### THE ROW's STEP -/
set_option maxRecDepth 100000 in
theorem lifted (os : Os) (started : os.Started) (H : Type) (enc : TypeId × Value → H) :
    ReturnsInHanded {} Try.checked os 6 .any (Rows.slabArmsSpec.pre6 enc Try.prog Try.f6 Rows.slabArmsRow.domain false) (Rows.slabArmsSpec.post enc Try.prog Try.f6 false true false false) := by
  refine returnsInHanded_of_change (C := Try.checked) own started (by kernel_rfl) Try.func6
    (ChangeSpec.witness6 (enc := enc) (C := Try.checked) false ⟨#[], #[.int .u8 0, .slice none 0 0], []⟩ 8 (by kernel_rfl) (by kernel_rfl) (by kernel_rfl) (by kernel_rfl)) ?_
  intro W base args ds gs before hval0 hW hcnd _
  have hval : ∀ (j : Nat) t v, Try.f6.params[j]? = some t → args[j]? = some v → Value.okWide Try.prog W .any base t v := hval0
  have hW' := hW
  obtain ⟨p, q, hA0, hV, rfl, hfz, hnd⟩ := hW
  have hA : DataW.TrodAll enc Try.prog W 0 (fun _ => true) true Try.f6.params.toList args.toList ds p := hA0
  rw [Try.params6] at hA hval
  obtain ⟨v0, vs0, d0, ds0, p0, q0, hargs, rfl, rfl, h0, r0⟩ := trodAll_cons hA
  obtain ⟨v1, vs1, d1, ds1, p1, q1, rfl, rfl, rfl, h1, r1⟩ := trodAll_cons r0
  obtain ⟨rfl, rfl, rfl⟩ := trodAll_nil r1
  obtain rfl : args = #[v0, v1] := by cases args; simp_all
  obtain ⟨rfl, rfl⟩ := trodVars_none hV
  have k0 := h0
  have lt0 : ∀ x ∈ p0, x.block < W.heap.size := by obtain ⟨m, hm⟩ := k0; exact DataW.trod_lt m _ _ _ hm
  have k1 := h1
  have lt1 : ∀ x ∈ p1, x.block < W.heap.size := by obtain ⟨m, hm⟩ := k1; exact DataW.trod_lt m _ _ _ hm
  obtain ⟨a0, rfl, rfl, rfl, w0⟩ := open_int Try.underlying5 (hval 0 5 v0 rfl rfl) h0
  obtain ⟨a1, len1, cap1, rfl⟩ := okWide_slice Try.underlying55 (hval 1 55 v1 rfl rfl)
  have w1 : IsBools W a1 len1 cap1 := isBools_of h1
  clear hA0 hval0
  refine (walk a0 a1 len1 cap1 W w0 w1).mono fun e W' ⟨he, bel⟩ => ?_
  subst he
  exact ⟨_, rfl, _, _, _, [], _, [], hW', trodAll_mk1 (shut_bool Try.underlying4 _), (trodAll_cons_mk (Below.trod laidOut (by kernel_rfl) (of_decide_eq_true (by kernel_rfl)) k0 bel lt0) (trodAll_cons_mk (Below.trod laidOut (by kernel_rfl) (of_decide_eq_true (by kernel_rfl)) k1 bel lt1) trodAll_mk0)), rfl, bel.frame _, fun h => by cases h⟩

theorem over : Rows.slabArmsRow.holds Try.pinned (OpenSpec.ofChange Rows.slabArmsSpec) :=
  OpenClaim.holds_of_wide 6 Try.f6 rfl rfl rfl rfl rfl rfl rfl ⟨rfl, rfl, rfl, rfl, rfl⟩ rfl rfl rfl rfl rfl (by kernel_rfl) Try.func6 (by kernel_rfl)
    (of_decide_eq_true (by kernel_rfl)) (by unfold Func.isWrapper; first | (rw [if_pos (by decide +kernel)]; kernel_rfl) | (rw [if_neg (by decide +kernel)]; exact ⟨rfl, rfl⟩))
    (fun os started H enc _ => lifted os started H enc)

/-- THE STATEMENT -/
theorem slabArms_holds : Rows.SlabArmsSaid := over
#print axioms slabArms_holds
end Go.Proofs.Ytnnamieepmbglaa.slabArms
