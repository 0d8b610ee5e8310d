/-
  What is flushed stays, whatever the power does behind it, and whatever is written elsewhere.
  (The frame behind the walk is the guide's shell, at these parameters.)
-/
import Derived.Test.YtnnamieepmbglaaRows
import Derived.WalkKit
import Derived.Test.YtnnamieepmbglaaAwake5
import Derived.Test.YtnnamieepmbglaaAppG
import Derived.Test.YtnnamieepmbglaaSame
import Derived.Test.YtnnamieepmbglaaSlabP
import Derived.Test.YtnnamieepmbglaaOps5
import Derived.ProofKit
import Derived.Deep.Cut
import Derived.OpenShut
import Derived.ShutString
import Derived.ChangeOld
import Derived.Below
namespace Go.Proofs.Ytnnamieepmbglaa.slabFlushes
open Go.ChangeShapes Go.WideShapes Go.ChangeAt Go.RowKit
open Go.ChangeMaps (open_string shut_string)
set_option linter.unusedVariables false

theorem own : ownKnob Try.prog.godebug = none := by kernel_rfl
theorem laidOut : laidOutB Try.prog = true := by kernel_rfl


theorem rd_old {w : World} {v : Value} {l : List UInt8} (h : Rd w v l) (hl : l ≠ []) (k : Nat) (hk : v.ownBlock = some k) : k < w.heap.size := by
  obtain ⟨b, off, cap, rfl, _, _, hb, _⟩ := h.pos (List.length_pos_iff.2 hl)
  simp [Value.ownBlock] at hk
  omega

def FInv (q : List UInt8) (s : Sl) : Prop := s.n = 8 ∧ sect s.now 3 = q ∧ sect s.done 3 = q ∧ ∀ x ∈ s.way, x.1 ≠ 3

theorem FInv.arm {q : List UInt8} {s : Sl} (h : FInv q s) (n : Int) : FInv q (s.arm n).1 := by unfold Sl.arm; split <;> exact h
theorem FInv.write {q : List UInt8} {s : Sl} (h : FInv q s) (ho : s.ok) (i : Int) (p : List UInt8) (hi : i ≠ 3) : FInv q (s.write i p).1 := by
  unfold Sl.write
  split
  · exact h
  · split
    · exact h
    · split
      · exact h
      · rename_i h1 h2 h3
        have hb : 0 ≤ i ∧ i < (s.n : Int) := by simpa [Sl.has] using h1
        have hn : i.toNat ≠ 3 := by omega
        refine ⟨h.1, ?_, h.2.2.1, fun x hx => ?_⟩
        · show sect (s.put i.toNat (pad p)).now 3 = q
          rw [put_sect s i.toNat 3 (pad p) ho.2.2.1 (by omega) (pad_length p (by omega)), if_neg (fun e => hn e.symm)]
          exact h.2.1
        · have hx' : x ∈ s.way ++ [(i.toNat, pad p)] := hx
          rcases List.mem_append.1 hx' with hx' | hx'
          · exact h.2.2.2 x hx'
          · rw [List.mem_singleton.1 hx']; exact hn
theorem FInv.flushed {q : List UInt8} {s : Sl} (h : FInv q s) (ho : s.ok) : FInv q s.flushed.1 := by
  unfold Sl.flushed
  split
  · exact h
  · split
    · exact h
    · refine ⟨h.1, h.2.1, ?_, fun x hx => by cases hx⟩
      show sect (doneAll s.now s.done s.way) 3 = q
      rw [doneAll_other s.now s.done s.way 3 s.n ho.2.2.1 ho.2.2.2.1 (fun x hx => (ho.2.2.2.2.1 x hx).1) h.2.2.2]
      exact h.2.2.1
theorem FInv.crash {q : List UInt8} {s : Sl} (h : FInv q s) (ho : s.ok) (fates : List UInt8) (cut : Int) : (s.crash fates cut).read 3 = (q, 0) := by
  have hc := (crash_sect s ho fates cut 3).2
  rw [if_neg (by
    rw [List.any_eq_true]
    rintro ⟨x, hx, he⟩
    exact h.2.2.2 x hx (by simpa using he)), h.2.1] at hc
  have hn : (s.crash fates cut).n = 8 := h.1
  unfold Sl.read
  rw [if_neg (by simp [Sl.has, hn]), if_neg (by simp [Sl.crash])]
  show (sect (s.crash fates cut).now 3, 0) = _
  rw [hc]

theorem new8 : (Sl.new 8).n = 8 ∧ (Sl.new 8).off = false ∧ (Sl.new 8).armed = 0 ∧ (Sl.new 8).way = [] ∧ (Sl.new 8).steps = 0 ∧ (Sl.new 8).has 3 = true := by decide +kernel
def f1 (p : List UInt8) : Sl := ((Sl.new 8).write 3 p).1
def f2 (p : List UInt8) : Sl := (f1 p).flushed.1
theorem fl_start (p : List UInt8) (hp : p.length ≤ 128) : ((Sl.new 8).write 3 p).2 = 0 ∧ (f1 p).flushed.2 = 0 ∧ FInv (pad p) (f2 p) ∧ (f2 p).steps ≤ 2 ∧ (f2 p).way.length ≤ 0 ∧ (Sl.new 8).steps ≤ 1000000 ∧ (Sl.new 8).way.length < 1000000 ∧ (f1 p).steps ≤ 1000000 := by
  obtain ⟨n1, n2, n3, n4, n5, n6⟩ := new8
  have hok := Sl.new_ok 8 (by omega) (by omega)
  have hpl := pad_length p hp
  have e1 : (Sl.new 8).write 3 p = (((Sl.new 8).put 3 (pad p)).step, 0) := by
    unfold Sl.write
    rw [if_neg (by simp [n6]), if_neg (by omega), if_neg (by simp [n2])]
    simp [Sl.stepE, n3]
  have d1 : f1 p = ((Sl.new 8).put 3 (pad p)).step := congrArg Prod.fst e1
  have hpok := Sl.put_ok (Sl.new 8) 3 (pad p) hok (by rw [n1]; omega) hpl (by rw [n4]; simp)
  have e2 : (f1 p).flushed = ((f1 p).step.flush, 0) := by
    unfold Sl.flushed
    rw [if_neg (by rw [d1]; simp [Sl.step, Sl.put, n2, n3]), if_neg (by rw [d1]; simp [Sl.step, Sl.put, n3])]
  have d2 : f2 p = (f1 p).step.flush := congrArg Prod.fst e2
  have hs : sect ((Sl.new 8).put 3 (pad p)).now 3 = pad p := by rw [put_sect (Sl.new 8) 3 3 (pad p) hok.2.2.1 (by rw [n1]; omega) hpl, if_pos rfl]
  refine ⟨by rw [e1], by rw [e2], ⟨?_, ?_, ?_, ?_⟩, ?_, ?_, by rw [n5]; omega, by rw [n4]; simp, ?_⟩
  · rw [d2, d1]; exact n1
  · rw [d2, d1]; exact hs
  · rw [d2, d1]
    show sect (doneAll ((Sl.new 8).put 3 (pad p)).now ((Sl.new 8).put 3 (pad p)).done ((Sl.new 8).put 3 (pad p)).way) 3 = pad p
    rw [doneAll_sect _ 3 8 (by rw [hpok.2.2.1]; show (Sl.new 8).n * 128 = _; rw [n1]) _ _ (by rw [hpok.2.2.2.1]; show (Sl.new 8).n * 128 = _; rw [n1]) (fun x hx => by have := (hpok.2.2.2.2.1 x hx).1; exact Nat.lt_of_lt_of_eq this n1), if_pos (by simp [Sl.put, n4])]
    exact hs
  · intro x hx
    rw [d2] at hx
    cases hx
  · rw [d2, d1]; simp [Sl.flush, Sl.step, Sl.put, n5]
  · rw [d2]; simp [Sl.flush]
  · rw [d1]; simp [Sl.step, Sl.put, n5]

set_option maxRecDepth 100000 in
set_option maxHeartbeats 8000000 in
theorem flushes_some (A1 A2 A3 : Option Addr) (L1 C1 K1 L2 C2 L3 C3 : Nat) (p ft : List UInt8) (cut : Int) (w : World) (h1 : L1 ≤ C1) (h2 : C1 ≤ 9223372036854775807) (hK1 : K1 = min L1 128)
    (hp : Rd w (.slice A1 K1 C1) p) (hpl : p.length = K1) (w1 : IsOps w A2 L2 C2) (hf : Rd w (.slice A3 L3 C3) ft) (hfl : ft.length = L3) :
    Calls Try.prog 5 #[.slice A1 L1 C1, .slice A2 L2 C2, .slice A3 L3 C3, .int .i64 cut] w fun e w' => e = .returned (.bool true) ∧ Below w.heap.size w w' := by
  have m1 := mn128 L1 K1 hK1
  have j1 : K1 ≤ C1 := by omega
  have i1 : (K1 : Int) ≤ (C1 : Int) := by omega
  have l1 : K1 ≤ 128 := by omega
  have HP := hid hp
  have HPL := hid hpl
  have HFR := hid hf
  have HFL := hid hfl
  have HOPS := hid w1
  obtain ⟨ob1, ob2⟩ := w1.bounds
  obtain ⟨r1, r2, r3, r4, r5, r6, r7, r8⟩ := fl_start p (by omega)
  have R1 := hid r1
  have R2 := hid r2
  clear hp hpl hK1 r1 r2 w1 hf hfl
  go_enter Try.func5, Try.ntmps5
  go_wp2_with fail
  refine (awake5_any w).mono ?_
  rintro e wa ⟨rfl, hba⟩
  have HBA := hid hba
  have hsa := hba.size
  clear hba
  go_wp2_with fail
  go_wp2_with fail
  refine (new_yes 8 wa (by omega) (by omega)).mono ?_
  rintro e w1 ⟨b, bn, bd, rfl, n1, hb1⟩
  have H1 := hid (show SlabAt w1 wa.heap.size b bn bd (.slice none 0 0) (Sl.new 8) from n1)
  have B1 := hid (show Below wa.heap.size wa w1 from hb1)
  have hs1 := B1.out.size
  clear n1 hb1
  have HPa := hid (HP.out.below HBA.out)
  have HO2 := hid (Own.empty w1 w1.heap.size (Nat.le_refl _))
  have HR2 := hid ((HPa.out.below B1.out).alloc (.cells #[] 5))
  go_wp2_with (first | (at_builtin; (refine appw (by rfl) (.tmp 30) (.tmp 31) rfl w1.heap.size (.slice (some ⟨w1.heap.size, 0, none⟩) 0 0) _ [] p p K1 rfl rfl HO2.out HR2.out (by have := HPL.out; simp; omega) rfl (by have := HPL.out; simp; omega) (by simp) ?_); intro ad2 cp2 w2 ho2 hg2) | fail)
  have HN2 := hid (((Below.refl w1.heap.size w1).alloc (Nat.le_refl _) (.cells #[] 5)).grown hg2 (by simp) (fun k hk => by have : w1.heap.size = k := Option.some.inj hk; omega))
  have hs2 := HN2.out.size
  have H2 := hid (H1.out.below HN2.out)
  have B2 := hid (B1.out.trans ((HN2.out).mono (by omega)))
  have Q2 := hid ho2
  clear ho2 hg2
  refine (write_all wa.heap.size b bn bd _ (Sl.new 8) 3 _ p _ H2.out r6 r7 Q2.out.rd).mono ?_
  rintro e w3 ⟨wv3, rfl, h3, hk3⟩
  rw [R1.out]
  have H3 := hid (show SlabAt w3 wa.heap.size b bn bd wv3 (f1 p) from h3)
  have HK3 := hid (H2.out.keep hk3)
  have B3 := hid ((B2.out).trans HK3.out)
  have hs3 := hk3.size
  clear h3 hk3
  go_wp2_with fail
  refine (flush_all wa.heap.size b bn bd _ (f1 p) w3 H3.out r8).mono ?_
  rintro e w4 ⟨wv4, rfl, h4, hk4⟩
  rw [R2.out]
  have H4 := hid (show SlabAt w4 wa.heap.size b bn bd wv4 (f2 p) from h4)
  have B4 := hid (B3.out.trans (H3.out.keep hk4))
  have hs4 := hk4.size
  clear h4 hk4
  have HI4 := hid (show FInv (pad p) (f2 p) from r3)
  have HF2 := hid (And.intro r4 r5)
  clear r3 r4 r5
  go_wp2_with fail
  go_loopw [43] (fun i wr => ∃ (k : Nat) (s : Sl) (wv : Value), k ≤ L2 ∧ k ≤ 30 ∧ i = .int .i64 k ∧ SlabAt wr wa.heap.size b bn bd wv s ∧ FInv (pad p) s ∧ s.steps ≤ 2 + k ∧ s.way.length ≤ k ∧ Below wa.heap.size wa wr) (fun i _ => L2 - (intOf i).toNat)
  case atStart => exact ⟨0, f2 p, _, by omega, by omega, rfl, H4.out, HI4.out, HF2.out.1, HF2.out.2, B4.out⟩
  case round =>
    obtain ⟨k, s, wv, hk1, hk2, rfl, h, hi, hst, hwy, hB⟩ := hrel
    have H := hid h
    have HI := hid hi
    have HB := hid hB
    have HSW := hid (And.intro hst hwy)
    have hsr := hB.size
    have HBw := hid (HBA.out.trans (hB.mono hsa))
    clear h hi hB hst hwy
    by_cases hlt : k < L2
    · obtain ⟨ob, off, eA, hob, hlist⟩ := HOPS.out.list (by omega) 140
      obtain ⟨os, hos1, hos⟩ := hlist L2 (Nat.le_refl _)
      obtain ⟨o, A, L, C, ho, hc0, hd, hc1, hn0, hn1, hc2, hLC, hC, hlen, hrd⟩ := hos k hlt
      clear hos hos1 hlist ho
      subst eA
      have hcell0 := (HBw.out.cell (p := ⟨ob, off + k * 3, none⟩) hob).trans hc0
      have hcell1 := (HBw.out.cell (p := ⟨ob, off + (k * 3 + 1), none⟩) hob).trans hc1
      have hcell2 := (HBw.out.cell (p := ⟨ob, off + (k * 3 + 2), none⟩) hob).trans hc2
      rw [← Nat.add_assoc] at hcell1 hcell2
      have HRD := hid (hrd.below HBw.out)
      have HLEN := hid hlen
      clear hc0 hc1 hc2 hrd hlen
      by_cases h30 : k < 30
      · rcases (show o.d % 4 = 0 ∨ o.d % 4 = 1 ∨ o.d % 4 = 2 ∨ o.d % 4 = 3 by omega) with hq | hq | hq | hq
        · have hqi : (o.d : Int) % 4 = 0 := by omega
          by_cases hn3 : o.n = 3
          · go_wp2_with fail
            obtain ⟨wo, hwo⟩ : ∃ wo, wo = wr.alloc (.cells #[.int .u8 (o.d : Int), .int .i64 o.n, .slice A L C] 33) := ⟨_, rfl⟩
            have HOB := hid (show wo.heap[wr.heap.size]? = some (.cells #[.int .u8 (o.d : Int), .int .i64 o.n, .slice A L C] 33 (0, 0)) by rw [hwo]; exact heap_alloc_new wr _)
            have hbo : Below wr.heap.size wr wo := by rw [hwo]; exact (Below.refl _ _).alloc (Nat.le_refl _) _
            have HO := hid (H.out.below hbo)
            have HBO := hid (HB.out.trans (hbo.mono hsr))
            have HRO := hid (HRD.out.below hbo)
            have hso := hbo.size
            have hso2 : wr.heap.size < wo.heap.size := by rw [hwo]; simp
            have e0 : wo.cell? ⟨wr.heap.size, 0, none⟩ = some (.int .u8 (o.d : Int)) := (cell_of_row _ _ _ _ _ _ HOB.out).trans rfl
            have e1 : wo.cell? ⟨wr.heap.size, 1, none⟩ = some (.int .i64 o.n) := (cell_of_row _ _ _ _ _ _ HOB.out).trans rfl
            have e2 : wo.cell? ⟨wr.heap.size, 2, none⟩ = some (.slice A L C) := (cell_of_row _ _ _ _ _ _ HOB.out).trans rfl
            clear hbo
            rw [hn3] at hwo
            rw [← hwo]
            clear hwo
            go_roundw
            case rel => exact ⟨k + 1, s, wv, by omega, by omega, by go_num, HO.out, HI.out, by have := HSW.out; omega, by have := HSW.out; omega, HBO.out⟩
            case measure => simp [intOf]; omega
          · go_wp2_with fail
            obtain ⟨wo, hwo⟩ : ∃ wo, wo = wr.alloc (.cells #[.int .u8 (o.d : Int), .int .i64 o.n, .slice A L C] 33) := ⟨_, rfl⟩
            have HOB := hid (show wo.heap[wr.heap.size]? = some (.cells #[.int .u8 (o.d : Int), .int .i64 o.n, .slice A L C] 33 (0, 0)) by rw [hwo]; exact heap_alloc_new wr _)
            have hbo : Below wr.heap.size wr wo := by rw [hwo]; exact (Below.refl _ _).alloc (Nat.le_refl _) _
            have HO := hid (H.out.below hbo)
            have HBO := hid (HB.out.trans (hbo.mono hsr))
            have HRO := hid (HRD.out.below hbo)
            have hso := hbo.size
            have hso2 : wr.heap.size < wo.heap.size := by rw [hwo]; simp
            have e0 : wo.cell? ⟨wr.heap.size, 0, none⟩ = some (.int .u8 (o.d : Int)) := (cell_of_row _ _ _ _ _ _ HOB.out).trans rfl
            have e1 : wo.cell? ⟨wr.heap.size, 1, none⟩ = some (.int .i64 o.n) := (cell_of_row _ _ _ _ _ _ HOB.out).trans rfl
            have e2 : wo.cell? ⟨wr.heap.size, 2, none⟩ = some (.slice A L C) := (cell_of_row _ _ _ _ _ _ HOB.out).trans rfl
            clear hbo
            rw [← hwo]
            clear hwo
            obtain ⟨M, hM⟩ : ∃ M, M = min L 140 := ⟨_, rfl⟩
            rw [← hM] at HRO HLEN
            have m140 : (if (140 : Int) < (L : Int) then (140 : Int) else (L : Int)) = (M : Int) := by subst hM; split <;> omega
            have jM : (M : Int) ≤ (C : Int) := by omega
            have hM1 : M ≤ C := by omega
            have HNS := hid (HO.out.apart' HOB.out (by decide) (by decide) (by decide))
            have HOD := hid (show SlabAt wo.drew wa.heap.size b bn bd wv s from HO.out)
            have HROD := hid (HRO.out.drew)
            have hst1 : s.steps ≤ 1000000 := by have := HSW.out; omega
            have hwy1 : s.way.length < 1000000 := by have := HSW.out; omega
            have hso3 : wr.heap.size < wo.drew.heap.size := hso2
            clear hM
            go_region_held3 (fun w' => w'.cell? ⟨wr.heap.size, 1, none⟩ = some (.int .i64 o.n) ∧ w'.cell? ⟨wr.heap.size, 2, none⟩ = some (.slice A L C))
              (first | (refine ⟨?_, ?_⟩ <;> assumption) | (refine ⟨(hk5.cell (p := ⟨wr.heap.size, 1, none⟩) hso3 HNS.out).trans ?_, (hk5.cell (p := ⟨wr.heap.size, 2, none⟩) hso3 HNS.out).trans ?_⟩ <;> assumption) | fail)
              (first | (go_at_call 17; refine (write_all wa.heap.size b bn bd wv s o.n _ o.t _ HOD.out hst1 hwy1 HROD.out).mono ?_; rintro e w5 ⟨wv5, rfl, h5, hk5⟩; dsimp only) | fail)
            have HB5 := hid ((HBO.out.drew).trans (HOD.out.keep hk5))
            have HI5 := hid (HI.out.write HO.out.okay o.n o.t hn3)
            have HS5 := hid (s.write_steps o.n o.t)
            clear hk5
            go_wp2_with fail
            go_roundw
            case rel => exact ⟨k + 1, (s.write o.n o.t).1, wv5, by omega, by omega, by go_num, h5, HI5.out, by have := HSW.out; have := HS5.out; omega, by have := HSW.out; have := HS5.out; omega, HB5.out⟩
            case measure => simp [intOf]; omega
        · have hqi : (o.d : Int) % 4 = 1 := by omega
          by_cases hn3 : o.n = 3
          · go_wp2_with fail
            obtain ⟨wo, hwo⟩ : ∃ wo, wo = wr.alloc (.cells #[.int .u8 (o.d : Int), .int .i64 o.n, .slice A L C] 33) := ⟨_, rfl⟩
            have HOB := hid (show wo.heap[wr.heap.size]? = some (.cells #[.int .u8 (o.d : Int), .int .i64 o.n, .slice A L C] 33 (0, 0)) by rw [hwo]; exact heap_alloc_new wr _)
            have hbo : Below wr.heap.size wr wo := by rw [hwo]; exact (Below.refl _ _).alloc (Nat.le_refl _) _
            have HO := hid (H.out.below hbo)
            have HBO := hid (HB.out.trans (hbo.mono hsr))
            have HRO := hid (HRD.out.below hbo)
            have hso := hbo.size
            have hso2 : wr.heap.size < wo.heap.size := by rw [hwo]; simp
            have e0 : wo.cell? ⟨wr.heap.size, 0, none⟩ = some (.int .u8 (o.d : Int)) := (cell_of_row _ _ _ _ _ _ HOB.out).trans rfl
            have e1 : wo.cell? ⟨wr.heap.size, 1, none⟩ = some (.int .i64 o.n) := (cell_of_row _ _ _ _ _ _ HOB.out).trans rfl
            have e2 : wo.cell? ⟨wr.heap.size, 2, none⟩ = some (.slice A L C) := (cell_of_row _ _ _ _ _ _ HOB.out).trans rfl
            clear hbo
            rw [hn3] at hwo
            rw [← hwo]
            clear hwo
            go_roundw
            case rel => exact ⟨k + 1, s, wv, by omega, by omega, by go_num, HO.out, HI.out, by have := HSW.out; omega, by have := HSW.out; omega, HBO.out⟩
            case measure => simp [intOf]; omega
          · go_wp2_with fail
            obtain ⟨wo, hwo⟩ : ∃ wo, wo = wr.alloc (.cells #[.int .u8 (o.d : Int), .int .i64 o.n, .slice A L C] 33) := ⟨_, rfl⟩
            have HOB := hid (show wo.heap[wr.heap.size]? = some (.cells #[.int .u8 (o.d : Int), .int .i64 o.n, .slice A L C] 33 (0, 0)) by rw [hwo]; exact heap_alloc_new wr _)
            have hbo : Below wr.heap.size wr wo := by rw [hwo]; exact (Below.refl _ _).alloc (Nat.le_refl _) _
            have HO := hid (H.out.below hbo)
            have HBO := hid (HB.out.trans (hbo.mono hsr))
            have HRO := hid (HRD.out.below hbo)
            have hso := hbo.size
            have hso2 : wr.heap.size < wo.heap.size := by rw [hwo]; simp
            have e0 : wo.cell? ⟨wr.heap.size, 0, none⟩ = some (.int .u8 (o.d : Int)) := (cell_of_row _ _ _ _ _ _ HOB.out).trans rfl
            have e1 : wo.cell? ⟨wr.heap.size, 1, none⟩ = some (.int .i64 o.n) := (cell_of_row _ _ _ _ _ _ HOB.out).trans rfl
            have e2 : wo.cell? ⟨wr.heap.size, 2, none⟩ = some (.slice A L C) := (cell_of_row _ _ _ _ _ _ HOB.out).trans rfl
            clear hbo
            rw [← hwo]
            clear hwo
            obtain ⟨M, hM⟩ : ∃ M, M = min L 140 := ⟨_, rfl⟩
            rw [← hM] at HRO HLEN
            have m140 : (if (140 : Int) < (L : Int) then (140 : Int) else (L : Int)) = (M : Int) := by subst hM; split <;> omega
            have jM : (M : Int) ≤ (C : Int) := by omega
            have hM1 : M ≤ C := by omega
            have HNS := hid (HO.out.apart' HOB.out (by decide) (by decide) (by decide))
            have HOD := hid (show SlabAt wo.drew wa.heap.size b bn bd wv s from HO.out)
            have HROD := hid (HRO.out.drew)
            have hst1 : s.steps ≤ 1000000 := by have := HSW.out; omega
            have hwy1 : s.way.length < 1000000 := by have := HSW.out; omega
            have hso3 : wr.heap.size < wo.drew.heap.size := hso2
            clear hM
            go_region_held3 (fun w' => w'.cell? ⟨wr.heap.size, 1, none⟩ = some (.int .i64 o.n) ∧ w'.cell? ⟨wr.heap.size, 2, none⟩ = some (.slice A L C))
              (first | (refine ⟨?_, ?_⟩ <;> assumption) | (refine ⟨(hk5.cell (p := ⟨wr.heap.size, 1, none⟩) hso3 HNS.out).trans ?_, (hk5.cell (p := ⟨wr.heap.size, 2, none⟩) hso3 HNS.out).trans ?_⟩ <;> assumption) | fail)
              (first | (go_at_call 17; refine (write_all wa.heap.size b bn bd wv s o.n _ o.t _ HOD.out hst1 hwy1 HROD.out).mono ?_; rintro e w5 ⟨wv5, rfl, h5, hk5⟩; dsimp only) | fail)
            have HB5 := hid ((HBO.out.drew).trans (HOD.out.keep hk5))
            have HI5 := hid (HI.out.write HO.out.okay o.n o.t hn3)
            have HS5 := hid (s.write_steps o.n o.t)
            clear hk5
            go_wp2_with fail
            go_roundw
            case rel => exact ⟨k + 1, (s.write o.n o.t).1, wv5, by omega, by omega, by go_num, h5, HI5.out, by have := HSW.out; have := HS5.out; omega, by have := HSW.out; have := HS5.out; omega, HB5.out⟩
            case measure => simp [intOf]; omega
        · have hqi : (o.d : Int) % 4 = 2 := by omega
          go_wp2_with fail
          obtain ⟨wo, hwo⟩ : ∃ wo, wo = wr.alloc (.cells #[.int .u8 (o.d : Int), .int .i64 o.n, .slice A L C] 33) := ⟨_, rfl⟩
          have HOB := hid (show wo.heap[wr.heap.size]? = some (.cells #[.int .u8 (o.d : Int), .int .i64 o.n, .slice A L C] 33 (0, 0)) by rw [hwo]; exact heap_alloc_new wr _)
          have hbo : Below wr.heap.size wr wo := by rw [hwo]; exact (Below.refl _ _).alloc (Nat.le_refl _) _
          have HO := hid (H.out.below hbo)
          have HBO := hid (HB.out.trans (hbo.mono hsr))
          have HRO := hid (HRD.out.below hbo)
          have hso := hbo.size
          have hso2 : wr.heap.size < wo.heap.size := by rw [hwo]; simp
          have e0 : wo.cell? ⟨wr.heap.size, 0, none⟩ = some (.int .u8 (o.d : Int)) := (cell_of_row _ _ _ _ _ _ HOB.out).trans rfl
          have e1 : wo.cell? ⟨wr.heap.size, 1, none⟩ = some (.int .i64 o.n) := (cell_of_row _ _ _ _ _ _ HOB.out).trans rfl
          have e2 : wo.cell? ⟨wr.heap.size, 2, none⟩ = some (.slice A L C) := (cell_of_row _ _ _ _ _ _ HOB.out).trans rfl
          clear hbo
          rw [← hwo]
          clear hwo
          refine (arm_all wa.heap.size b bn bd wv s o.n wo HO.out (by omega)).mono ?_
          rintro e w5 ⟨rfl, h5, hk5⟩
          have HB5 := hid (HBO.out.trans (HO.out.keep hk5))
          have HI5 := hid (HI.out.arm o.n)
          have HS5 := hid (s.arm_steps o.n)
          clear hk5
          go_wp2_with fail
          go_roundw
          case rel => exact ⟨k + 1, (s.arm o.n).1, wv, by omega, by omega, by go_num, h5, HI5.out, by have := HSW.out; have h9 := HS5.out; rw [h9.1]; omega, by have := HSW.out; have h9 := HS5.out; rw [h9.2]; omega, HB5.out⟩
          case measure => simp [intOf]; omega
        · have hqi : (o.d : Int) % 4 = 3 := by omega
          go_wp2_with fail
          obtain ⟨wo, hwo⟩ : ∃ wo, wo = wr.alloc (.cells #[.int .u8 (o.d : Int), .int .i64 o.n, .slice A L C] 33) := ⟨_, rfl⟩
          have HOB := hid (show wo.heap[wr.heap.size]? = some (.cells #[.int .u8 (o.d : Int), .int .i64 o.n, .slice A L C] 33 (0, 0)) by rw [hwo]; exact heap_alloc_new wr _)
          have hbo : Below wr.heap.size wr wo := by rw [hwo]; exact (Below.refl _ _).alloc (Nat.le_refl _) _
          have HO := hid (H.out.below hbo)
          have HBO := hid (HB.out.trans (hbo.mono hsr))
          have HRO := hid (HRD.out.below hbo)
          have hso := hbo.size
          have hso2 : wr.heap.size < wo.heap.size := by rw [hwo]; simp
          have e0 : wo.cell? ⟨wr.heap.size, 0, none⟩ = some (.int .u8 (o.d : Int)) := (cell_of_row _ _ _ _ _ _ HOB.out).trans rfl
          have e1 : wo.cell? ⟨wr.heap.size, 1, none⟩ = some (.int .i64 o.n) := (cell_of_row _ _ _ _ _ _ HOB.out).trans rfl
          have e2 : wo.cell? ⟨wr.heap.size, 2, none⟩ = some (.slice A L C) := (cell_of_row _ _ _ _ _ _ HOB.out).trans rfl
          clear hbo
          rw [← hwo]
          clear hwo
          refine (flush_all wa.heap.size b bn bd wv s wo HO.out (by have := HSW.out; omega)).mono ?_
          rintro e w5 ⟨wv5, rfl, h5, hk5⟩
          have HB5 := hid (HBO.out.trans (HO.out.keep hk5))
          have HI5 := hid (HI.out.flushed HO.out.okay)
          have HS5 := hid s.flushed_steps
          clear hk5
          go_wp2_with fail
          go_roundw
          case rel => exact ⟨k + 1, s.flushed.1, wv5, by omega, by omega, by go_num, h5, HI5.out, by have := HSW.out; have := HS5.out; omega, by have := HSW.out; have := HS5.out; omega, HB5.out⟩
          case measure => simp [intOf]; omega
      · have hge : (30 : Int) ≤ (k : Int) := by omega
        go_wp2_with fail
        obtain ⟨wo, hwo⟩ : ∃ wo, wo = wr.alloc (.cells #[.int .u8 (o.d : Int), .int .i64 o.n, .slice A L C] 33) := ⟨_, rfl⟩
        have HOB := hid (show wo.heap[wr.heap.size]? = some (.cells #[.int .u8 (o.d : Int), .int .i64 o.n, .slice A L C] 33 (0, 0)) by rw [hwo]; exact heap_alloc_new wr _)
        have hbo : Below wr.heap.size wr wo := by rw [hwo]; exact (Below.refl _ _).alloc (Nat.le_refl _) _
        have HO := hid (H.out.below hbo)
        have HBO := hid (HB.out.trans (hbo.mono hsr))
        have HRO := hid (HRD.out.below hbo)
        have hso := hbo.size
        have hso2 : wr.heap.size < wo.heap.size := by rw [hwo]; simp
        have e0 : wo.cell? ⟨wr.heap.size, 0, none⟩ = some (.int .u8 (o.d : Int)) := (cell_of_row _ _ _ _ _ _ HOB.out).trans rfl
        have e1 : wo.cell? ⟨wr.heap.size, 1, none⟩ = some (.int .i64 o.n) := (cell_of_row _ _ _ _ _ _ HOB.out).trans rfl
        have e2 : wo.cell? ⟨wr.heap.size, 2, none⟩ = some (.slice A L C) := (cell_of_row _ _ _ _ _ _ HOB.out).trans rfl
        clear hbo
        rw [← hwo]
        clear hwo
        go_wp2_with fail
        obtain ⟨w20, hw20⟩ : ∃ w20, w20 = wo := ⟨_, rfl⟩
        have H20 := hid (show SlabAt w20 wa.heap.size b bn bd wv s by rw [hw20]; exact HO.out)
        have B20 := hid (show Below wa.heap.size wa w20 by rw [hw20]; exact HBO.out)
        have hs20 := B20.out.size
        rw [← hw20]
        clear hw20
        have HFA := hid (HFR.out.below HBA.out)
        have HFZ := hid (HFA.out.below B20.out)
        have HPa := hid (HP.out.below HBA.out)
        have HQE := hid (FInv.crash HI.out H20.out.okay ft cut)
        refine (crash_all wa.heap.size b bn bd _ s _ ft cut _ H20.out HFZ.out (fun hne k hk => by have := rd_old HFR.out hne k hk; have := H20.out.2.2.2.2.2.2.1; omega)).mono ?_
        rintro e w21 ⟨rfl, h21, hk21⟩
        have H21 := hid (show SlabAt w21 wa.heap.size b bn bd (.slice none 0 0) (s.crash ft cut) from h21)
        have HK21 := hid (H20.out.keep hk21)
        have B21 := hid ((B20.out).trans HK21.out)
        have hs21 := hk21.size
        clear h21 hk21
        go_wp2_with fail
        refine (read_all wa.heap.size b bn bd _ (s.crash ft cut) 3 w21 H21.out).mono ?_
        rintro e w22 ⟨v22, rfl, ha⟩
        rw [HQE.out] at ha ⊢
        rcases ha with ⟨h0, _⟩ | ⟨_, hl22, g22, rfl, hg22, hgl22, hb22⟩
        · exact absurd rfl h0
        have HG22 := hid hg22
        have HL22 := hid hl22
        have HX22 := hid (rd_row hl22.symm hg22 (by have := hl22; unfold maxLen; omega))
        have HN22 := hid hb22
        have hs22 := hb22.size
        clear hg22 hl22 hb22
        have H22 := hid (H21.out.below HN22.out)
        have B22 := hid (B21.out.trans ((HN22.out).mono (by omega)))
        have HO23 := hid (Own.empty w22 w22.heap.size (Nat.le_refl _))
        have HR23 := hid ((HPa.out.below B22.out).alloc (.cells #[] 5))
        have hz23 : (128 : Int) - (K1 : Int) = ((128 - K1 : Nat) : Int) := by omega
        go_wp2_with (first | (at_builtin; (refine appw (by rfl) (.tmp 92) (.tmp 93) rfl w22.heap.size (.slice (some ⟨w22.heap.size, 0, none⟩) 0 0) _ [] p p K1 rfl rfl HO23.out HR23.out (by have := HPL.out; simp; omega) rfl (by have := HPL.out; simp; omega) (by simp) ?_); intro ad23 cp23 w23 ho23 hg23; have Q23 := hid ho23; have HS23 := hid hg23; clear ho23 hg23) | (at_builtin; (refine appzw (by rfl) (.tmp 94) (.tmp 97) rfl w22.heap.size (.slice ad23 K1 cp23) _ p (pad p) (128 - K1) 128 rfl rfl rfl Q23.out (by have := HPL.out; omega) (by have := HPL.out; subst this; rfl) (by have := HPL.out; omega) (by have := HS23.out.size; simp at this; omega) ?_); intro ad24 cp24 w24 ho24 hg24; have Q24 := hid ho24; have HS24 := hid hg24; clear ho24 hg24; have HN23 := hid (((Below.refl w22.heap.size w22).alloc (Nat.le_refl _) (.cells #[] 5)).grown HS23.out (by simp) (fun k hk => by have : w22.heap.size = k := Option.some.inj hk; omega)); have HN24 := hid (HN23.out.grown HS24.out HN23.out.size (fun k hk => (Q23.out.lt k hk).1)); have hs24 := HN24.out.size; have H24 := hid (H22.out.below HN24.out); have B24 := hid (B22.out.trans (HN24.out.mono (by omega))); have HX24 := hid (HX22.out.below HN24.out); have QA24 := hid Q24.out.rd) | fail)
        refine (same_any _ _ (pad p) (pad p) w24 HX24.out QA24.out).mono ?_
        rintro e w' ⟨rfl, rfl⟩
        rw [show (pad p == pad p) = true by simp]
        go_wp2
        go_ret
        exact ⟨rfl, HBA.out.trans (B24.out.mono hsa)⟩
    · obtain rfl : k = L2 := by omega
      go_wp2_with fail
      obtain ⟨w20, hw20⟩ : ∃ w20, w20 = wr := ⟨_, rfl⟩
      have H20 := hid (show SlabAt w20 wa.heap.size b bn bd wv s by rw [hw20]; exact H.out)
      have B20 := hid (show Below wa.heap.size wa w20 by rw [hw20]; exact HB.out)
      have hs20 := B20.out.size
      rw [← hw20]
      clear hw20
      have HFA := hid (HFR.out.below HBA.out)
      have HFZ := hid (HFA.out.below B20.out)
      have HPa := hid (HP.out.below HBA.out)
      have HQE := hid (FInv.crash HI.out H20.out.okay ft cut)
      refine (crash_all wa.heap.size b bn bd _ s _ ft cut _ H20.out HFZ.out (fun hne k hk => by have := rd_old HFR.out hne k hk; have := H20.out.2.2.2.2.2.2.1; omega)).mono ?_
      rintro e w21 ⟨rfl, h21, hk21⟩
      have H21 := hid (show SlabAt w21 wa.heap.size b bn bd (.slice none 0 0) (s.crash ft cut) from h21)
      have HK21 := hid (H20.out.keep hk21)
      have B21 := hid ((B20.out).trans HK21.out)
      have hs21 := hk21.size
      clear h21 hk21
      go_wp2_with fail
      refine (read_all wa.heap.size b bn bd _ (s.crash ft cut) 3 w21 H21.out).mono ?_
      rintro e w22 ⟨v22, rfl, ha⟩
      rw [HQE.out] at ha ⊢
      rcases ha with ⟨h0, _⟩ | ⟨_, hl22, g22, rfl, hg22, hgl22, hb22⟩
      · exact absurd rfl h0
      have HG22 := hid hg22
      have HL22 := hid hl22
      have HX22 := hid (rd_row hl22.symm hg22 (by have := hl22; unfold maxLen; omega))
      have HN22 := hid hb22
      have hs22 := hb22.size
      clear hg22 hl22 hb22
      have H22 := hid (H21.out.below HN22.out)
      have B22 := hid (B21.out.trans ((HN22.out).mono (by omega)))
      have HO23 := hid (Own.empty w22 w22.heap.size (Nat.le_refl _))
      have HR23 := hid ((HPa.out.below B22.out).alloc (.cells #[] 5))
      have hz23 : (128 : Int) - (K1 : Int) = ((128 - K1 : Nat) : Int) := by omega
      go_wp2_with (first | (at_builtin; (refine appw (by rfl) (.tmp 92) (.tmp 93) rfl w22.heap.size (.slice (some ⟨w22.heap.size, 0, none⟩) 0 0) _ [] p p K1 rfl rfl HO23.out HR23.out (by have := HPL.out; simp; omega) rfl (by have := HPL.out; simp; omega) (by simp) ?_); intro ad23 cp23 w23 ho23 hg23; have Q23 := hid ho23; have HS23 := hid hg23; clear ho23 hg23) | (at_builtin; (refine appzw (by rfl) (.tmp 94) (.tmp 97) rfl w22.heap.size (.slice ad23 K1 cp23) _ p (pad p) (128 - K1) 128 rfl rfl rfl Q23.out (by have := HPL.out; omega) (by have := HPL.out; subst this; rfl) (by have := HPL.out; omega) (by have := HS23.out.size; simp at this; omega) ?_); intro ad24 cp24 w24 ho24 hg24; have Q24 := hid ho24; have HS24 := hid hg24; clear ho24 hg24; have HN23 := hid (((Below.refl w22.heap.size w22).alloc (Nat.le_refl _) (.cells #[] 5)).grown HS23.out (by simp) (fun k hk => by have : w22.heap.size = k := Option.some.inj hk; omega)); have HN24 := hid (HN23.out.grown HS24.out HN23.out.size (fun k hk => (Q23.out.lt k hk).1)); have hs24 := HN24.out.size; have H24 := hid (H22.out.below HN24.out); have B24 := hid (B22.out.trans (HN24.out.mono (by omega))); have HX24 := hid (HX22.out.below HN24.out); have QA24 := hid Q24.out.rd) | fail)
      refine (same_any _ _ (pad p) (pad p) w24 HX24.out QA24.out).mono ?_
      rintro e w' ⟨rfl, rfl⟩
      rw [show (pad p == pad p) = true by simp]
      go_wp2
      go_ret
      exact ⟨rfl, HBA.out.trans (B24.out.mono hsa)⟩

set_option maxHeartbeats 1000000 in
theorem walk (a0 : Option Addr) (len0 cap0 : Nat) (z0 : List Int) (a1 : Option Addr) (len1 cap1 : Nat) (a2 : Option Addr) (len2 cap2 : Nat) (z2 : List Int) (a3 : Int) (w : World) (w0 : IsRow .u8 w a0 len0 cap0 z0) (w1 : IsOps w a1 len1 cap1) (w2 : IsRow .u8 w a2 len2 cap2 z2) (w3 : (Lit.int .i64 a3).wf = true) :
    Calls Try.prog 5 #[.slice a0 len0 cap0, .slice a1 len1 cap1, .slice a2 len2 cap2, .int .i64 a3] w fun e w' => e = .returned (.bool true) ∧ Below w.heap.size w w' := by

  have b0 := w0.bounds
  have b2 := w2.bounds
  obtain ⟨p, hpl, hp⟩ := w0.rd (min len0 128) (Nat.min_le_left _ _)
  obtain ⟨q, hql, hq⟩ := w2.rd len2 (Nat.le_refl _)
  exact flushes_some a0 a1 a2 len0 cap0 (min len0 128) len1 cap1 len2 cap2 p q a3 w b0.1 b0.2.1 rfl hp hpl w1 hq hql

/-! ### THE ROW's STEP -/
set_option maxRecDepth 100000 in
theorem lifted (os : Os) (started : os.Started) (H : Type) (enc : TypeId × Value → H) :
    ReturnsInHanded {} Try.checked os 5 .any (Rows.slabFlushesSpec.pre6 enc Try.prog Try.f5 Rows.slabFlushesRow.domain false) (Rows.slabFlushesSpec.post enc Try.prog Try.f5 false true false false) := by
  refine returnsInHanded_of_change (C := Try.checked) own started (by kernel_rfl) Try.func5
    (ChangeSpec.witness6 (enc := enc) (C := Try.checked) false ⟨#[], #[.slice none 0 0, .slice none 0 0, .slice none 0 0, .int .i64 0], []⟩ 8 (by kernel_rfl) (by kernel_rfl) (by kernel_rfl) (by kernel_rfl)) ?_
  intro W base args ds gs before hval0 hW hcnd _
  have hval : ∀ (j : Nat) t v, Try.f5.params[j]? = some t → args[j]? = some v → Value.okWide Try.prog W .any base t v := hval0
  have hW' := hW
  obtain ⟨p, q, hA0, hV, rfl, hfz, hnd⟩ := hW
  have hA : DataW.TrodAll enc Try.prog W 0 (fun _ => true) true Try.f5.params.toList args.toList ds p := hA0
  rw [Try.params5] at hA hval
  obtain ⟨v0, vs0, d0, ds0, p0, q0, hargs, rfl, rfl, h0, r0⟩ := trodAll_cons hA
  obtain ⟨v1, vs1, d1, ds1, p1, q1, rfl, rfl, rfl, h1, r1⟩ := trodAll_cons r0
  obtain ⟨v2, vs2, d2, ds2, p2, q2, rfl, rfl, rfl, h2, r2⟩ := trodAll_cons r1
  obtain ⟨v3, vs3, d3, ds3, p3, q3, rfl, rfl, rfl, h3, r3⟩ := trodAll_cons r2
  obtain ⟨rfl, rfl, rfl⟩ := trodAll_nil r3
  obtain rfl : args = #[v0, v1, v2, v3] := by cases args; simp_all
  obtain ⟨rfl, rfl⟩ := trodVars_none hV
  have k0 := h0
  have lt0 : ∀ x ∈ p0, x.block < W.heap.size := by obtain ⟨m, hm⟩ := k0; exact DataW.trod_lt m _ _ _ hm
  have k1 := h1
  have lt1 : ∀ x ∈ p1, x.block < W.heap.size := by obtain ⟨m, hm⟩ := k1; exact DataW.trod_lt m _ _ _ hm
  have k2 := h2
  have lt2 : ∀ x ∈ p2, x.block < W.heap.size := by obtain ⟨m, hm⟩ := k2; exact DataW.trod_lt m _ _ _ hm
  have k3 := h3
  have lt3 : ∀ x ∈ p3, x.block < W.heap.size := by obtain ⟨m, hm⟩ := k3; exact DataW.trod_lt m _ _ _ hm
  obtain ⟨a0, len0, cap0, rfl⟩ := okWide_slice Try.underlying31 (hval 0 31 v0 rfl rfl)
  obtain ⟨z0, w0⟩ : ∃ zs, IsRow .u8 W a0 len0 cap0 zs := by
    obtain ⟨fuel, hf⟩ := h0
    rcases open_ints Try.underlying31 Try.underlying5 (by kernel_rfl) hf with ⟨hcs, _⟩ | ⟨x, l, c, zs, hcs, _, hl, hm, hz, _, hcell, hwz⟩
    · simp [Value.cells] at hcs
      obtain ⟨rfl, rfl, rfl⟩ := hcs
      exact ⟨[], .inl ⟨rfl, rfl, rfl, rfl⟩⟩
    · simp [Value.cells] at hcs
      obtain ⟨rfl, rfl, rfl⟩ := hcs
      exact ⟨zs, .inr ⟨_, rfl, hl, hm, by simpa using hz, hcell, hwz⟩⟩
  obtain ⟨a1, len1, cap1, rfl⟩ := okWide_slice Try.underlying22 (hval 1 22 v1 rfl rfl)
  have w1 : IsOps W a1 len1 cap1 := isOps_of h1
  obtain ⟨a2, len2, cap2, rfl⟩ := okWide_slice Try.underlying31 (hval 2 31 v2 rfl rfl)
  obtain ⟨z2, w2⟩ : ∃ zs, IsRow .u8 W a2 len2 cap2 zs := by
    obtain ⟨fuel, hf⟩ := h2
    rcases open_ints Try.underlying31 Try.underlying5 (by kernel_rfl) hf with ⟨hcs, _⟩ | ⟨x, l, c, zs, hcs, _, hl, hm, hz, _, hcell, hwz⟩
    · simp [Value.cells] at hcs
      obtain ⟨rfl, rfl, rfl⟩ := hcs
      exact ⟨[], .inl ⟨rfl, rfl, rfl, rfl⟩⟩
    · simp [Value.cells] at hcs
      obtain ⟨rfl, rfl, rfl⟩ := hcs
      exact ⟨zs, .inr ⟨_, rfl, hl, hm, by simpa using hz, hcell, hwz⟩⟩
  obtain ⟨a3, rfl, rfl, rfl, w3⟩ := open_int Try.underlying3 (hval 3 3 v3 rfl rfl) h3
  clear hA0 hval0
  refine (walk a0 len0 cap0 z0 a1 len1 cap1 a2 len2 cap2 z2 a3 W w0 w1 w2 w3).mono fun e W' ⟨he, bel⟩ => ?_
  subst he
  exact ⟨_, rfl, _, _, _, [], _, [], hW', trodAll_mk1 (shut_bool Try.underlying4 _), (trodAll_cons_mk (Below.trod laidOut (by kernel_rfl) (of_decide_eq_true (by kernel_rfl)) k0 bel lt0) (trodAll_cons_mk (Below.trod laidOut (by kernel_rfl) (of_decide_eq_true (by kernel_rfl)) k1 bel lt1) (trodAll_cons_mk (Below.trod laidOut (by kernel_rfl) (of_decide_eq_true (by kernel_rfl)) k2 bel lt2) (trodAll_cons_mk (Below.trod laidOut (by kernel_rfl) (of_decide_eq_true (by kernel_rfl)) k3 bel lt3) trodAll_mk0)))), rfl, bel.frame _, fun h => by cases h⟩

theorem over : Rows.slabFlushesRow.holds Try.pinned (OpenSpec.ofChange Rows.slabFlushesSpec) :=
  OpenClaim.holds_of_wide 5 Try.f5 rfl rfl rfl rfl rfl rfl rfl ⟨rfl, rfl, rfl, rfl, rfl⟩ rfl rfl rfl rfl rfl (by kernel_rfl) Try.func5 (by kernel_rfl)
    (of_decide_eq_true (by kernel_rfl)) (by unfold Func.isWrapper; first | (rw [if_pos (by decide +kernel)]; kernel_rfl) | (rw [if_neg (by decide +kernel)]; exact ⟨rfl, rfl⟩))
    (fun os started H enc _ => lifted os started H enc)

/-- THE STATEMENT -/
theorem slabFlushes_holds : Rows.SlabFlushesSaid := over
#print axioms slabFlushes_holds
end Go.Proofs.Ytnnamieepmbglaa.slabFlushes
