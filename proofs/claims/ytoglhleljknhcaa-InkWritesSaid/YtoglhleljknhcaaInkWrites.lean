/-
  Whatever is written, one behind the other, stands there byte by byte; a number below 0 leaves nothing: quadrillelaw01.InkWrites returns true for every input, without any condition.
  (The frame behind the walk is the guide's shell, at a slice of structs.)
-/
import Derived.Test.YtoglhleljknhcaaRows
import Derived.WalkKit
import Derived.Test.YtoglhleljknhcaaRefText
import Derived.Test.YtoglhleljknhcaaInkX
import Derived.ProofKit
import Derived.OpenShut
import Derived.ShutString
import Derived.ChangeOld
import Derived.Below
namespace Go.Proofs.Ytoglhleljknhcaa.inkWrites
open Go.ChangeShapes Go.WideShapes Go.ChangeAt Go.RowKit
open Go.ChangeMaps (open_string shut_string)
set_option linter.unusedVariables false

theorem own : ownKnob Try.prog.godebug = none := by kernel_rfl
theorem laidOut : laidOutB Try.prog = true := by kernel_rfl

set_option maxRecDepth 100000 in
set_option maxHeartbeats 32000000 in
theorem walk (a0 : Option Addr) (len0 cap0 : Nat) (w : World) (w0 : IsOps w a0 len0 cap0) :
    Calls Try.prog 4 #[.slice a0 len0 cap0] w fun e w' => e = .returned (.bool true) ∧ Below w.heap.size w w' := by
  obtain ⟨hb1, hb2⟩ := w0.bounds
  by_cases hz : len0 = 0
  · subst hz
    go_enter Try.func4, Try.ntmps4
    go_wp2_with fail
    refine (awake1_any w).mono ?_
    rintro e w1 ⟨rfl, hb1⟩
    go_wp2_with fail
    refine (new_any w1).mono ?_
    rintro e w2 ⟨rfl, hp2, hb2, hs2⟩
    clear hs2
    have hB2 := hb1.trans (hb2.mono hb1.size)
    go_wp2_with fail
    refine wp_loop_rounds 1 ?_
    rw [rounds_succ]
    go_wp2
    go_ret
    exact ⟨rfl, hB2⟩
  obtain ⟨b, off, rfl, hbw, hlist⟩ := w0.list (by omega) 100
  clear w0
  obtain ⟨os, hos1, hos⟩ := hlist len0 (by omega)
  have HOS := hid hos
  clear hos1 hos
  go_enter Try.func4, Try.ntmps4
  go_wp2_with fail
  refine (awake1_any w).mono ?_
  rintro e w1 ⟨rfl, hb1⟩
  go_wp2_with fail
  refine (new_any w1).mono ?_
  rintro e w2 ⟨rfl, hp2, hb2, hs2⟩
  have hB2 := hb1.trans (hb2.mono hb1.size)
  have hp0 : PenAt w2 w.heap.size w1.heap.size (.slice none 0 0) [] false := ⟨hp2.1, Own.nil _ _, hp2.2.2.1, hb1.size⟩
  clear hs2 hp2 hb2
  go_wp2_with fail
  go_loopw [4, 5, 15] (fun wv bv i wr => ∃ (k : Nat) (v : Value) (wa : Option Addr) (wn wc : Nat) (bad : Bool) (LL : List UInt8), k ≤ len0 ∧ k ≤ 60 ∧ i = .int .i64 k ∧ wv = .slice wa wn wc ∧ bv = .bool bad ∧ PenAt wr w.heap.size w1.heap.size v LL bad ∧ Own wr w.heap.size (.slice wa wn wc) LL ∧ (∀ q, (Value.slice wa wn wc).ownBlock = some q → q ≠ w1.heap.size ∧ v.ownBlock ≠ some q) ∧ (bad = true → LL = []) ∧ LL.length ≤ 110 * k ∧ Below w.heap.size w wr) (fun _ _ i _ => len0 - (intOf i).toNat)
  case atStart => exact ⟨0, _, none, 0, 0, false, [], by omega, by omega, rfl, rfl, rfl, hp0, Own.nil _ _, (fun _ h => by simp [Value.ownBlock] at h), (fun h => by cases h), by simp, hB2⟩
  case round =>
    obtain ⟨k, v, wa, wn, wc, bad, LL, hk1, hk2, rfl, rfl, rfl, hp, hw, hap, hbl, hll, hB⟩ := hrel
    by_cases hlt : k < len0
    · obtain ⟨o, A, L, C, ho, hc0, hd, hc1, hn0, hn1, hc2, hLC, hC, hlen, hrd⟩ := HOS.out k hlt
      have hcell0 := (hB.cell (p := ⟨b, off + k * 3, none⟩) hbw).trans hc0
      have hcell1 := (hB.cell (p := ⟨b, off + (k * 3 + 1), none⟩) hbw).trans hc1
      have hcell2 := (hB.cell (p := ⟨b, off + (k * 3 + 2), none⟩) hbw).trans hc2
      rw [← Nat.add_assoc] at hcell1 hcell2
      clear hc0 hc1 hc2
      have hbr : Hid (Both wr w.heap.size w1.heap.size v (.slice wa wn wc) LL bad) := ⟨hp, hw, hap⟩
      have hwn := hid hw.caps.1
      have HLL := hid (show LL.length ≤ 6600 by omega)
      by_cases h60 : k < 60
      · by_cases hL : L ≤ 100
        · rw [show min L 100 = L by omega] at hrd hlen
          have HLEN := hid hlen
          have hrd1 : Rd (wr.alloc (.cells #[.int .u8 (o.d : Int), .int .i64 o.n, .slice A L C] 38)) (.slice A (L) C) o.t := (hrd.below hB).alloc _
          have hA1 : (wr.alloc (.cells #[.int .u8 (o.d : Int), .int .i64 o.n, .slice A L C] 38)).cell? ⟨wr.heap.size, 1, none⟩ = some (.int .i64 o.n) := by rw [cell_of_row _ _ _ _ _ _ (heap_alloc_new wr _)]; rfl
          have hA0 : (wr.alloc (.cells #[.int .u8 (o.d : Int), .int .i64 o.n, .slice A L C] 38)).cell? ⟨wr.heap.size, 0, none⟩ = some (.int .u8 (o.d : Int)) := by rw [cell_of_row _ _ _ _ _ _ (heap_alloc_new wr _)]; rfl
          have hl100 : L ≤ 100 := by omega
          have f1 : (0 : Int) ≤ (L : Int) := by omega
          have f0 : (L : Int) ≤ 100 := by omega
          have hq : o.d % 4 = 0 ∨ o.d % 4 = 1 ∨ o.d % 4 = 2 ∨ o.d % 4 = 3 := by omega
          clear hlen hrd
          rcases hq with hq | hq | hq | hq
          · have hqi : (o.d : Int) % 4 = 0 := by omega
            cases bad
            · go_wp2_with (at_builtin; go_must (refine appk rfl (.tmp 22) (.tmp 29) rfl (wr.heap.size + 1) (.slice (some ⟨wr.heap.size + 1, 0, none⟩) 0 0) _ [] o.t o.t (L) rfl rfl (by have := Own.empty (wr.alloc (.cells #[.int .u8 (o.d : Int), .int .i64 o.n, .slice A L C] 38)) (wr.heap.size + 1) (by simp); simpa using this) (hrd1.alloc _) (by rw [List.length_nil, Nat.zero_add, HLEN.out]) rfl (by rw [List.length_nil, HLEN.out]; omega) (by simp) ?_); intro ta tc wt hot hgt; have hbW : Below (wr.heap.size + 1) (wr.alloc (.cells #[.int .u8 (o.d : Int), .int .i64 o.n, .slice A L C] 38)) wt := ((Below.refl _ _).alloc (by simp) _).grown hgt (by simp) (fun q hq => by simp [Value.ownBlock] at hq; omega); have hA0t : wt.cell? ⟨wr.heap.size, 0, none⟩ = some (.int .u8 (o.d : Int)) := (hbW.cell (p := ⟨wr.heap.size, 0, none⟩) (by simp)).trans hA0; have hA1t : wt.cell? ⟨wr.heap.size, 1, none⟩ = some (.int .i64 o.n) := (hbW.cell (p := ⟨wr.heap.size, 1, none⟩) (by simp)).trans hA1; clear hgt)
              have hAt := hid hA1t
              have hbw2 : Below wr.heap.size wr wt := ((Below.refl wr.heap.size wr).alloc (Nat.le_refl _) (.cells #[.int .u8 (o.d : Int), .int .i64 o.n, .slice A L C] 38)).trans (hbW.mono (by omega))
              have hbt := hid (hbr.out.below hbw2)
              have hwt := hid (show wr.heap.size < wt.heap.size by have := hbW.size; simp at this; omega)
              have hBt := hid (hB.trans (hbw2.mono hB.size))
              clear hA0t hA1t hbw2 hbW hp hw hap hB hA0 hA1 hrd1
              refine (pennum_at _ w.heap.size _ LL (Go.Proofs.Ytoglhleljknhcaa.u64 o.n) _ (wrap_u64z _) (u64_lt _) wt hbt.out.pen (by have := HLL.out; omega) hBt.out.size).mono ?_
              rintro e w3 ⟨rfl, v3, hp3, hk3, hf3⟩
              have hA3 : w3.cell? ⟨wr.heap.size, 1, none⟩ = some (.int .i64 o.n) := (hk3.cell (p := ⟨wr.heap.size, 1, none⟩) hwt.out (fun hs => by
                rcases hs with h | h
                · have := hbt.out.pen.lt; have := hbr.out.pen.lt; exact absurd h (by show wr.heap.size ≠ _; omega)
                · have := (hbr.out.pen.2.1.lt _ h).2; exact absurd this (by show ¬ wr.heap.size < _; omega))).trans hAt.out
              obtain ⟨ho3, ha3⟩ := hbt.out.wrote hk3 hf3
              have hB3 : Below w.heap.size w w3 := hBt.out.trans (PenAt.low hbt.out.pen hk3 (fun _ h => h) hBt.out.size)
              go_wp2_with fail
              refine (refnum_any (Go.Proofs.Ytoglhleljknhcaa.u64 o.n) _ (wrap_u64z _) (u64_lt _) w3).mono ?_
              rintro e w4 ⟨u4, rfl, hu4, hb4⟩
              have hp4 := hp3.below hb4
              have ho4 := ho3.below hb4
              have hB4 : Below w.heap.size w w4 := hB3.trans (hb4.mono hB3.size)
              obtain ⟨ua, un, uc, rfl⟩ : ∃ ua un uc, u4 = .slice ua un uc := by
                obtain ⟨a, c, e, _⟩ := hu4.rd
                exact ⟨a, _, c, e⟩
              have hun := hid hu4.caps.1
              have hnl := hid (show (Ink.num (Go.Proofs.Ytoglhleljknhcaa.u64 o.n)).length ≤ 110 by exact Nat.le_trans (Ink.num_length _).1 (by omega))
              clear hp3 ho3 hB3 hb4
              go_wp2_with (at_builtin; go_must (refine appf rfl (.tmp 60) (.tmp 64) rfl w.heap.size (.slice wa wn wc) _ LL (Ink.num (Go.Proofs.Ytoglhleljknhcaa.u64 o.n)) (LL ++ Ink.num (Go.Proofs.Ytoglhleljknhcaa.u64 o.n)) (wn + un) rfl rfl ho4 hu4.rd (by rw [hwn.out, hun.out]) rfl (by have := HLL.out; have := hnl.out; omega) hB4.size ?_); intro ad5 cp5 w5 ho5 hg5 hq5)
              have hp5 := hp4.beside ha3 hg5
              have ha5 := apart_new hp4 ha3 hq5
              have hB5 : Below w.heap.size w w5 := ho4.grown hB4 hg5 (Nat.le_refl _) hB4.size
              have hpn := hid hp5
              go_wp2_with fail
              refine (penbytes_any _ _ _ (LL ++ Ink.num (Go.Proofs.Ytoglhleljknhcaa.u64 o.n)) false w5 hp5 (by rw [List.length_append]; have := HLL.out; have := hnl.out; omega)).mono ?_
              rintro e w8 ⟨u8, rfl, hu8, hb8⟩
              have hp8 := (hp5).below hb8
              have ho8 := (ho5).below hb8
              have hB8 : Below w.heap.size w w8 := (hB5).trans (hb8.mono (hB5).size)
              go_wp2_with fail
              refine (same_eq _ _ (LL ++ Ink.num (Go.Proofs.Ytoglhleljknhcaa.u64 o.n)) w8 hu8.rd ho8.rd).mono ?_
              rintro e w9 ⟨rfl, rfl⟩
              go_wp2_with fail
              go_roundw
              case rel => exact ⟨k + 1, _, _, _, _, false, LL ++ Ink.num (Go.Proofs.Ytoglhleljknhcaa.u64 o.n), by omega, by omega, by go_num, rfl, (by first | rfl | (simp; done) | (simp; omega)), hp8, ho8, ha5, (fun h => by cases h), by rw [List.length_append]; have := HLL.out; have := hnl.out; omega, hB8⟩
              case measure => simp [intOf]; omega
            · obtain rfl := hbl rfl
              go_wp2_with (at_builtin; go_must (refine appk rfl (.tmp 22) (.tmp 29) rfl (wr.heap.size + 1) (.slice (some ⟨wr.heap.size + 1, 0, none⟩) 0 0) _ [] o.t o.t (L) rfl rfl (by have := Own.empty (wr.alloc (.cells #[.int .u8 (o.d : Int), .int .i64 o.n, .slice A L C] 38)) (wr.heap.size + 1) (by simp); simpa using this) (hrd1.alloc _) (by rw [List.length_nil, Nat.zero_add, HLEN.out]) rfl (by rw [List.length_nil, HLEN.out]; omega) (by simp) ?_); intro ta tc wt hot hgt; have hbW : Below (wr.heap.size + 1) (wr.alloc (.cells #[.int .u8 (o.d : Int), .int .i64 o.n, .slice A L C] 38)) wt := ((Below.refl _ _).alloc (by simp) _).grown hgt (by simp) (fun q hq => by simp [Value.ownBlock] at hq; omega); have hA0t : wt.cell? ⟨wr.heap.size, 0, none⟩ = some (.int .u8 (o.d : Int)) := (hbW.cell (p := ⟨wr.heap.size, 0, none⟩) (by simp)).trans hA0; have hA1t : wt.cell? ⟨wr.heap.size, 1, none⟩ = some (.int .i64 o.n) := (hbW.cell (p := ⟨wr.heap.size, 1, none⟩) (by simp)).trans hA1; clear hgt)
              have hAt := hid hA1t
              have hbw2 : Below wr.heap.size wr wt := ((Below.refl wr.heap.size wr).alloc (Nat.le_refl _) (.cells #[.int .u8 (o.d : Int), .int .i64 o.n, .slice A L C] 38)).trans (hbW.mono (by omega))
              have hbt := hid (hbr.out.below hbw2)
              have hwt := hid (show wr.heap.size < wt.heap.size by have := hbW.size; simp at this; omega)
              have hBt := hid (hB.trans (hbw2.mono hB.size))
              clear hA0t hA1t hbw2 hbW hp hw hap hB hA0 hA1 hrd1
              refine (pennum_bad _ _ _ _ _ wt hbt.out.pen).mono ?_
              rintro e w3 ⟨rfl, rfl⟩
              have hA3 := hAt.out
              have ho3 := hbt.out.want
              have ha3 := hbt.out.apart
              have hB3 := hBt.out
              have hp3 := hbt.out.pen
              go_wp2_with fail
              refine (refnum_any (Go.Proofs.Ytoglhleljknhcaa.u64 o.n) _ (wrap_u64z _) (u64_lt _) wt).mono ?_
              rintro e w4 ⟨u4, rfl, hu4, hb4⟩
              have hp4 := hp3.below hb4
              have ho4 := ho3.below hb4
              have hB4 : Below w.heap.size w w4 := hB3.trans (hb4.mono hB3.size)
              obtain ⟨ua, un, uc, rfl⟩ : ∃ ua un uc, u4 = .slice ua un uc := by
                obtain ⟨a, c, e, _⟩ := hu4.rd
                exact ⟨a, _, c, e⟩
              have hun := hid hu4.caps.1
              have hnl := hid (show (Ink.num (Go.Proofs.Ytoglhleljknhcaa.u64 o.n)).length ≤ 110 by exact Nat.le_trans (Ink.num_length _).1 (by omega))
              clear hp3 ho3 hB3 hb4
              go_wp2_with (at_builtin; go_must (refine appf rfl (.tmp 60) (.tmp 64) rfl w.heap.size (.slice wa wn wc) _ ([] : List UInt8) (Ink.num (Go.Proofs.Ytoglhleljknhcaa.u64 o.n)) (([] : List UInt8) ++ Ink.num (Go.Proofs.Ytoglhleljknhcaa.u64 o.n)) (wn + un) rfl rfl ho4 hu4.rd (by rw [hwn.out, hun.out]) rfl (by have := HLL.out; have := hnl.out; omega) hB4.size ?_); intro ad5 cp5 w5 ho5 hg5 hq5)
              have hp5 := hp4.beside ha3 hg5
              have ha5 := apart_new hp4 ha3 hq5
              have hB5 : Below w.heap.size w w5 := ho4.grown hB4 hg5 (Nat.le_refl _) hB4.size
              go_wp2_with fail
              refine (penbytes_any _ _ _ [] true w5 hp5 (by simp)).mono ?_
              rintro e w8 ⟨u8, rfl, hu8, hb8⟩
              have hp8 := (hp5).below hb8
              have hB8 : Below w.heap.size w w8 := (hB5).trans (hb8.mono (hB5).size)
              go_wp2_with fail
              refine (same_eq _ _ [] w8 hu8.rd (Rd.nil _)).mono ?_
              rintro e w9 ⟨rfl, rfl⟩
              go_wp2_with fail
              go_roundw
              case rel => exact ⟨k + 1, _, none, 0, 0, true, [], by omega, by omega, by go_num, rfl, (by first | rfl | (simp; done) | (simp; omega)), hp8, Own.nil _ _, (fun _ h => by simp [Value.ownBlock] at h), (fun _ => rfl), by show 0 ≤ _; omega, hB8⟩
              case measure => simp [intOf]; omega
          · have hqi : (o.d : Int) % 4 = 1 := by omega
            by_cases fn : 0 ≤ o.n
            · cases bad
              · have fn1 : ¬ o.n < 0 := by omega
                go_wp2_with (at_builtin; go_must (refine appk rfl (.tmp 22) (.tmp 29) rfl (wr.heap.size + 1) (.slice (some ⟨wr.heap.size + 1, 0, none⟩) 0 0) _ [] o.t o.t (L) rfl rfl (by have := Own.empty (wr.alloc (.cells #[.int .u8 (o.d : Int), .int .i64 o.n, .slice A L C] 38)) (wr.heap.size + 1) (by simp); simpa using this) (hrd1.alloc _) (by rw [List.length_nil, Nat.zero_add, HLEN.out]) rfl (by rw [List.length_nil, HLEN.out]; omega) (by simp) ?_); intro ta tc wt hot hgt; have hbW : Below (wr.heap.size + 1) (wr.alloc (.cells #[.int .u8 (o.d : Int), .int .i64 o.n, .slice A L C] 38)) wt := ((Below.refl _ _).alloc (by simp) _).grown hgt (by simp) (fun q hq => by simp [Value.ownBlock] at hq; omega); have hA0t : wt.cell? ⟨wr.heap.size, 0, none⟩ = some (.int .u8 (o.d : Int)) := (hbW.cell (p := ⟨wr.heap.size, 0, none⟩) (by simp)).trans hA0; have hA1t : wt.cell? ⟨wr.heap.size, 1, none⟩ = some (.int .i64 o.n) := (hbW.cell (p := ⟨wr.heap.size, 1, none⟩) (by simp)).trans hA1; clear hgt)
                have hAt := hid hA1t
                have hbw2 : Below wr.heap.size wr wt := ((Below.refl wr.heap.size wr).alloc (Nat.le_refl _) (.cells #[.int .u8 (o.d : Int), .int .i64 o.n, .slice A L C] 38)).trans (hbW.mono (by omega))
                have hbt := hid (hbr.out.below hbw2)
                have hwt := hid (show wr.heap.size < wt.heap.size by have := hbW.size; simp at this; omega)
                have hBt := hid (hB.trans (hbw2.mono hB.size))
                clear hA0t hA1t hbw2 hbW hp hw hap hB hA0 hA1 hrd1
                refine (penint_at _ w.heap.size _ LL (Go.Proofs.Ytoglhleljknhcaa.u64 o.n) _ (u64_pos _ fn (by omega)) (by have := u64_pos o.n fn (by omega); omega) wt hbt.out.pen (by have := HLL.out; omega) hBt.out.size).mono ?_
                rintro e w3 ⟨rfl, v3, hp3, hk3, hf3⟩
                have hA3 : w3.cell? ⟨wr.heap.size, 1, none⟩ = some (.int .i64 o.n) := (hk3.cell (p := ⟨wr.heap.size, 1, none⟩) hwt.out (fun hs => by
                  rcases hs with h | h
                  · have := hbt.out.pen.lt; have := hbr.out.pen.lt; exact absurd h (by show wr.heap.size ≠ _; omega)
                  · have := (hbr.out.pen.2.1.lt _ h).2; exact absurd this (by show ¬ wr.heap.size < _; omega))).trans hAt.out
                obtain ⟨ho3, ha3⟩ := hbt.out.wrote hk3 hf3
                have hB3 : Below w.heap.size w w3 := hBt.out.trans (PenAt.low hbt.out.pen hk3 (fun _ h => h) hBt.out.size)
                go_wp2_with fail
                refine (refnum_any (Go.Proofs.Ytoglhleljknhcaa.u64 o.n) _ (by first | exact wrap_u64z _ | exact u64_pos _ fn (by omega)) (u64_lt _) w3).mono ?_
                rintro e w4 ⟨u4, rfl, hu4, hb4⟩
                have hp4 := hp3.below hb4
                have ho4 := ho3.below hb4
                have hB4 : Below w.heap.size w w4 := hB3.trans (hb4.mono hB3.size)
                obtain ⟨ua, un, uc, rfl⟩ : ∃ ua un uc, u4 = .slice ua un uc := by
                  obtain ⟨a, c, e, _⟩ := hu4.rd
                  exact ⟨a, _, c, e⟩
                have hun := hid hu4.caps.1
                have hnl := hid (show (Ink.num (Go.Proofs.Ytoglhleljknhcaa.u64 o.n)).length ≤ 110 by exact Nat.le_trans (Ink.num_length _).1 (by omega))
                clear hp3 ho3 hB3 hb4
                go_wp2_with (at_builtin; go_must (refine appf rfl (.tmp 81) (.tmp 85) rfl w.heap.size (.slice wa wn wc) _ LL (Ink.num (Go.Proofs.Ytoglhleljknhcaa.u64 o.n)) (LL ++ Ink.num (Go.Proofs.Ytoglhleljknhcaa.u64 o.n)) (wn + un) rfl rfl ho4 hu4.rd (by rw [hwn.out, hun.out]) rfl (by have := HLL.out; have := hnl.out; omega) hB4.size ?_); intro ad5 cp5 w5 ho5 hg5 hq5)
                have hp5 := hp4.beside ha3 hg5
                have ha5 := apart_new hp4 ha3 hq5
                have hB5 : Below w.heap.size w w5 := ho4.grown hB4 hg5 (Nat.le_refl _) hB4.size
                have hpn := hid hp5
                go_wp2_with fail
                refine (penbytes_any _ _ _ (LL ++ Ink.num (Go.Proofs.Ytoglhleljknhcaa.u64 o.n)) false w5 hp5 (by rw [List.length_append]; have := HLL.out; have := hnl.out; omega)).mono ?_
                rintro e w8 ⟨u8, rfl, hu8, hb8⟩
                have hp8 := (hp5).below hb8
                have ho8 := (ho5).below hb8
                have hB8 : Below w.heap.size w w8 := (hB5).trans (hb8.mono (hB5).size)
                go_wp2_with fail
                refine (same_eq _ _ (LL ++ Ink.num (Go.Proofs.Ytoglhleljknhcaa.u64 o.n)) w8 hu8.rd ho8.rd).mono ?_
                rintro e w9 ⟨rfl, rfl⟩
                go_wp2_with fail
                go_roundw
                case rel => exact ⟨k + 1, _, _, _, _, false, LL ++ Ink.num (Go.Proofs.Ytoglhleljknhcaa.u64 o.n), by omega, by omega, by go_num, rfl, (by first | rfl | (simp; done) | (simp; omega)), hp8, ho8, ha5, (fun h => by cases h), by rw [List.length_append]; have := HLL.out; have := hnl.out; omega, hB8⟩
                case measure => simp [intOf]; omega
              · obtain rfl := hbl rfl
                have fn1 : ¬ o.n < 0 := by omega
                go_wp2_with (at_builtin; go_must (refine appk rfl (.tmp 22) (.tmp 29) rfl (wr.heap.size + 1) (.slice (some ⟨wr.heap.size + 1, 0, none⟩) 0 0) _ [] o.t o.t (L) rfl rfl (by have := Own.empty (wr.alloc (.cells #[.int .u8 (o.d : Int), .int .i64 o.n, .slice A L C] 38)) (wr.heap.size + 1) (by simp); simpa using this) (hrd1.alloc _) (by rw [List.length_nil, Nat.zero_add, HLEN.out]) rfl (by rw [List.length_nil, HLEN.out]; omega) (by simp) ?_); intro ta tc wt hot hgt; have hbW : Below (wr.heap.size + 1) (wr.alloc (.cells #[.int .u8 (o.d : Int), .int .i64 o.n, .slice A L C] 38)) wt := ((Below.refl _ _).alloc (by simp) _).grown hgt (by simp) (fun q hq => by simp [Value.ownBlock] at hq; omega); have hA0t : wt.cell? ⟨wr.heap.size, 0, none⟩ = some (.int .u8 (o.d : Int)) := (hbW.cell (p := ⟨wr.heap.size, 0, none⟩) (by simp)).trans hA0; have hA1t : wt.cell? ⟨wr.heap.size, 1, none⟩ = some (.int .i64 o.n) := (hbW.cell (p := ⟨wr.heap.size, 1, none⟩) (by simp)).trans hA1; clear hgt)
                have hAt := hid hA1t
                have hbw2 : Below wr.heap.size wr wt := ((Below.refl wr.heap.size wr).alloc (Nat.le_refl _) (.cells #[.int .u8 (o.d : Int), .int .i64 o.n, .slice A L C] 38)).trans (hbW.mono (by omega))
                have hbt := hid (hbr.out.below hbw2)
                have hwt := hid (show wr.heap.size < wt.heap.size by have := hbW.size; simp at this; omega)
                have hBt := hid (hB.trans (hbw2.mono hB.size))
                clear hA0t hA1t hbw2 hbW hp hw hap hB hA0 hA1 hrd1
                refine (penint_bad' _ _ _ _ _ fn (by omega) wt hbt.out.pen).mono ?_
                rintro e w3 ⟨rfl, rfl⟩
                have hA3 := hAt.out
                have ho3 := hbt.out.want
                have ha3 := hbt.out.apart
                have hB3 := hBt.out
                have hp3 := hbt.out.pen
                go_wp2_with fail
                refine (refnum_any (Go.Proofs.Ytoglhleljknhcaa.u64 o.n) _ (by first | exact wrap_u64z _ | exact u64_pos _ fn (by omega)) (u64_lt _) wt).mono ?_
                rintro e w4 ⟨u4, rfl, hu4, hb4⟩
                have hp4 := hp3.below hb4
                have ho4 := ho3.below hb4
                have hB4 : Below w.heap.size w w4 := hB3.trans (hb4.mono hB3.size)
                obtain ⟨ua, un, uc, rfl⟩ : ∃ ua un uc, u4 = .slice ua un uc := by
                  obtain ⟨a, c, e, _⟩ := hu4.rd
                  exact ⟨a, _, c, e⟩
                have hun := hid hu4.caps.1
                have hnl := hid (show (Ink.num (Go.Proofs.Ytoglhleljknhcaa.u64 o.n)).length ≤ 110 by exact Nat.le_trans (Ink.num_length _).1 (by omega))
                clear hp3 ho3 hB3 hb4
                go_wp2_with (at_builtin; go_must (refine appf rfl (.tmp 81) (.tmp 85) rfl w.heap.size (.slice wa wn wc) _ ([] : List UInt8) (Ink.num (Go.Proofs.Ytoglhleljknhcaa.u64 o.n)) (([] : List UInt8) ++ Ink.num (Go.Proofs.Ytoglhleljknhcaa.u64 o.n)) (wn + un) rfl rfl ho4 hu4.rd (by rw [hwn.out, hun.out]) rfl (by have := HLL.out; have := hnl.out; omega) hB4.size ?_); intro ad5 cp5 w5 ho5 hg5 hq5)
                have hp5 := hp4.beside ha3 hg5
                have ha5 := apart_new hp4 ha3 hq5
                have hB5 : Below w.heap.size w w5 := ho4.grown hB4 hg5 (Nat.le_refl _) hB4.size
                go_wp2_with fail
                refine (penbytes_any _ _ _ [] true w5 hp5 (by simp)).mono ?_
                rintro e w8 ⟨u8, rfl, hu8, hb8⟩
                have hp8 := (hp5).below hb8
                have hB8 : Below w.heap.size w w8 := (hB5).trans (hb8.mono (hB5).size)
                go_wp2_with fail
                refine (same_eq _ _ [] w8 hu8.rd (Rd.nil _)).mono ?_
                rintro e w9 ⟨rfl, rfl⟩
                go_wp2_with fail
                go_roundw
                case rel => exact ⟨k + 1, _, none, 0, 0, true, [], by omega, by omega, by go_num, rfl, (by first | rfl | (simp; done) | (simp; omega)), hp8, Own.nil _ _, (fun _ h => by simp [Value.ownBlock] at h), (fun _ => rfl), by show 0 ≤ _; omega, hB8⟩
                case measure => simp [intOf]; omega
            · have fn : o.n < 0 := by omega
              cases bad
              · have fn1 : ¬ 0 ≤ o.n := by omega
                go_wp2_with (at_builtin; go_must (refine appk rfl (.tmp 22) (.tmp 29) rfl (wr.heap.size + 1) (.slice (some ⟨wr.heap.size + 1, 0, none⟩) 0 0) _ [] o.t o.t (L) rfl rfl (by have := Own.empty (wr.alloc (.cells #[.int .u8 (o.d : Int), .int .i64 o.n, .slice A L C] 38)) (wr.heap.size + 1) (by simp); simpa using this) (hrd1.alloc _) (by rw [List.length_nil, Nat.zero_add, HLEN.out]) rfl (by rw [List.length_nil, HLEN.out]; omega) (by simp) ?_); intro ta tc wt hot hgt; have hbW : Below (wr.heap.size + 1) (wr.alloc (.cells #[.int .u8 (o.d : Int), .int .i64 o.n, .slice A L C] 38)) wt := ((Below.refl _ _).alloc (by simp) _).grown hgt (by simp) (fun q hq => by simp [Value.ownBlock] at hq; omega); have hA0t : wt.cell? ⟨wr.heap.size, 0, none⟩ = some (.int .u8 (o.d : Int)) := (hbW.cell (p := ⟨wr.heap.size, 0, none⟩) (by simp)).trans hA0; have hA1t : wt.cell? ⟨wr.heap.size, 1, none⟩ = some (.int .i64 o.n) := (hbW.cell (p := ⟨wr.heap.size, 1, none⟩) (by simp)).trans hA1; clear hgt)
                have hAt := hid hA1t
                have hbw2 : Below wr.heap.size wr wt := ((Below.refl wr.heap.size wr).alloc (Nat.le_refl _) (.cells #[.int .u8 (o.d : Int), .int .i64 o.n, .slice A L C] 38)).trans (hbW.mono (by omega))
                have hbt := hid (hbr.out.below hbw2)
                have hwt := hid (show wr.heap.size < wt.heap.size by have := hbW.size; simp at this; omega)
                have hBt := hid (hB.trans (hbw2.mono hB.size))
                clear hA0t hA1t hbw2 hbW hp hw hap hB hA0 hA1 hrd1
                refine (penint_neg _ _ _ _ _ _ fn wt hbt.out.pen).mono ?_
                rintro e w3 ⟨rfl, hp3, hk3⟩
                have hA3 : w3.cell? ⟨wr.heap.size, 1, none⟩ = some (.int .i64 o.n) := (hk3.cell (p := ⟨wr.heap.size, 1, none⟩) hwt.out (fun hs => by
                  have := hbr.out.pen.lt
                  have hs' : wr.heap.size = _ := hs
                  omega)).trans hAt.out
                have hB3 : Below w.heap.size w w3 := hBt.out.trans (hk3.below hBt.out.size (fun i hi => by subst hi; exact hbt.out.pen.2.2.2))
                go_wp2_with fail
                refine (penbytes_any _ _ _ [] true w3 hp3 (by simp)).mono ?_
                rintro e w8 ⟨u8, rfl, hu8, hb8⟩
                have hp8 := (hp3).below hb8
                have hB8 : Below w.heap.size w w8 := (hB3).trans (hb8.mono (hB3).size)
                go_wp2_with fail
                refine (same_eq _ _ [] w8 hu8.rd (Rd.nil _)).mono ?_
                rintro e w9 ⟨rfl, rfl⟩
                go_wp2_with fail
                go_roundw
                case rel => exact ⟨k + 1, _, none, 0, 0, true, [], by omega, by omega, by go_num, rfl, (by first | rfl | (simp; done) | (simp; omega)), hp8, Own.nil _ _, (fun _ h => by simp [Value.ownBlock] at h), (fun _ => rfl), by show 0 ≤ _; omega, hB8⟩
                case measure => simp [intOf]; omega
              · obtain rfl := hbl rfl
                have fn1 : ¬ 0 ≤ o.n := by omega
                go_wp2_with (at_builtin; go_must (refine appk rfl (.tmp 22) (.tmp 29) rfl (wr.heap.size + 1) (.slice (some ⟨wr.heap.size + 1, 0, none⟩) 0 0) _ [] o.t o.t (L) rfl rfl (by have := Own.empty (wr.alloc (.cells #[.int .u8 (o.d : Int), .int .i64 o.n, .slice A L C] 38)) (wr.heap.size + 1) (by simp); simpa using this) (hrd1.alloc _) (by rw [List.length_nil, Nat.zero_add, HLEN.out]) rfl (by rw [List.length_nil, HLEN.out]; omega) (by simp) ?_); intro ta tc wt hot hgt; have hbW : Below (wr.heap.size + 1) (wr.alloc (.cells #[.int .u8 (o.d : Int), .int .i64 o.n, .slice A L C] 38)) wt := ((Below.refl _ _).alloc (by simp) _).grown hgt (by simp) (fun q hq => by simp [Value.ownBlock] at hq; omega); have hA0t : wt.cell? ⟨wr.heap.size, 0, none⟩ = some (.int .u8 (o.d : Int)) := (hbW.cell (p := ⟨wr.heap.size, 0, none⟩) (by simp)).trans hA0; have hA1t : wt.cell? ⟨wr.heap.size, 1, none⟩ = some (.int .i64 o.n) := (hbW.cell (p := ⟨wr.heap.size, 1, none⟩) (by simp)).trans hA1; clear hgt)
                have hAt := hid hA1t
                have hbw2 : Below wr.heap.size wr wt := ((Below.refl wr.heap.size wr).alloc (Nat.le_refl _) (.cells #[.int .u8 (o.d : Int), .int .i64 o.n, .slice A L C] 38)).trans (hbW.mono (by omega))
                have hbt := hid (hbr.out.below hbw2)
                have hwt := hid (show wr.heap.size < wt.heap.size by have := hbW.size; simp at this; omega)
                have hBt := hid (hB.trans (hbw2.mono hB.size))
                clear hA0t hA1t hbw2 hbW hp hw hap hB hA0 hA1 hrd1
                refine (penint_neg _ _ _ _ _ _ fn wt hbt.out.pen).mono ?_
                rintro e w3 ⟨rfl, hp3, hk3⟩
                have hA3 : w3.cell? ⟨wr.heap.size, 1, none⟩ = some (.int .i64 o.n) := (hk3.cell (p := ⟨wr.heap.size, 1, none⟩) hwt.out (fun hs => by
                  have := hbr.out.pen.lt
                  have hs' : wr.heap.size = _ := hs
                  omega)).trans hAt.out
                have hB3 : Below w.heap.size w w3 := hBt.out.trans (hk3.below hBt.out.size (fun i hi => by subst hi; exact hbt.out.pen.2.2.2))
                go_wp2_with fail
                refine (penbytes_any _ _ _ [] true w3 hp3 (by simp)).mono ?_
                rintro e w8 ⟨u8, rfl, hu8, hb8⟩
                have hp8 := (hp3).below hb8
                have hB8 : Below w.heap.size w w8 := (hB3).trans (hb8.mono (hB3).size)
                go_wp2_with fail
                refine (same_eq _ _ [] w8 hu8.rd (Rd.nil _)).mono ?_
                rintro e w9 ⟨rfl, rfl⟩
                go_wp2_with fail
                go_roundw
                case rel => exact ⟨k + 1, _, none, 0, 0, true, [], by omega, by omega, by go_num, rfl, (by first | rfl | (simp; done) | (simp; omega)), hp8, Own.nil _ _, (fun _ h => by simp [Value.ownBlock] at h), (fun _ => rfl), by show 0 ≤ _; omega, hB8⟩
                case measure => simp [intOf]; omega
          · have hqi : (o.d : Int) % 4 = 2 := by omega
            by_cases fn : 0 < o.n
            · cases bad
              · have fn2 : (o.n < 1) = False := eq_false (by omega)
                go_wp2_with (at_builtin; go_must (refine appk rfl (.tmp 22) (.tmp 29) rfl (wr.heap.size + 1) (.slice (some ⟨wr.heap.size + 1, 0, none⟩) 0 0) _ [] o.t o.t (L) rfl rfl (by have := Own.empty (wr.alloc (.cells #[.int .u8 (o.d : Int), .int .i64 o.n, .slice A L C] 38)) (wr.heap.size + 1) (by simp); simpa using this) (hrd1.alloc _) (by rw [List.length_nil, Nat.zero_add, HLEN.out]) rfl (by rw [List.length_nil, HLEN.out]; omega) (by simp) ?_); intro ta tc wt hot hgt; have hbW : Below (wr.heap.size + 1) (wr.alloc (.cells #[.int .u8 (o.d : Int), .int .i64 o.n, .slice A L C] 38)) wt := ((Below.refl _ _).alloc (by simp) _).grown hgt (by simp) (fun q hq => by simp [Value.ownBlock] at hq; omega); have hA0t : wt.cell? ⟨wr.heap.size, 0, none⟩ = some (.int .u8 (o.d : Int)) := (hbW.cell (p := ⟨wr.heap.size, 0, none⟩) (by simp)).trans hA0; have hA1t : wt.cell? ⟨wr.heap.size, 1, none⟩ = some (.int .i64 o.n) := (hbW.cell (p := ⟨wr.heap.size, 1, none⟩) (by simp)).trans hA1; clear hgt)
                have hAt := hid hA1t
                have hbw2 : Below wr.heap.size wr wt := ((Below.refl wr.heap.size wr).alloc (Nat.le_refl _) (.cells #[.int .u8 (o.d : Int), .int .i64 o.n, .slice A L C] 38)).trans (hbW.mono (by omega))
                have hbt := hid (hbr.out.below hbw2)
                have hwt := hid (show wr.heap.size < wt.heap.size by have := hbW.size; simp at this; omega)
                have hBt := hid (hB.trans (hbw2.mono hB.size))
                clear hA0t hA1t hbw2 hbW hp hw hap hB hA0 hA1 hrd1
                refine (penbool_good _ w.heap.size _ LL true wt hbt.out.pen (by have := HLL.out; omega) hBt.out.size).mono ?_
                rintro e w3 ⟨rfl, v3, hp3, hk3, hf3⟩
                rw [if_pos rfl] at hp3
                have hA3 : w3.cell? ⟨wr.heap.size, 1, none⟩ = some (.int .i64 o.n) := (hk3.cell (p := ⟨wr.heap.size, 1, none⟩) hwt.out (fun hs => by
                  rcases hs with h | h
                  · have := hbt.out.pen.lt; have := hbr.out.pen.lt; exact absurd h (by show wr.heap.size ≠ _; omega)
                  · have := (hbr.out.pen.2.1.lt _ h).2; exact absurd this (by show ¬ wr.heap.size < _; omega))).trans hAt.out
                obtain ⟨ho3, ha3⟩ := hbt.out.wrote hk3 hf3
                have hB3 : Below w.heap.size w w3 := hBt.out.trans (PenAt.low hbt.out.pen hk3 (fun _ h => h) hBt.out.size)
                go_wp2_with fail
                refine (refnum_any 1 _ (by first | rfl | omega | simp) (by omega) w3).mono ?_
                rintro e w4 ⟨u4, rfl, hu4, hb4⟩
                have hp4 := hp3.below hb4
                have ho4 := ho3.below hb4
                have hB4 : Below w.heap.size w w4 := hB3.trans (hb4.mono hB3.size)
                obtain ⟨ua, un, uc, rfl⟩ : ∃ ua un uc, u4 = .slice ua un uc := by
                  obtain ⟨a, c, e, _⟩ := hu4.rd
                  exact ⟨a, _, c, e⟩
                have hun := hid hu4.caps.1
                have hnl := hid (show (Ink.num 1).length ≤ 110 by exact Nat.le_trans (Ink.num_length _).1 (by omega))
                clear hp3 ho3 hB3 hb4
                go_wp2_with (at_builtin; go_must (refine appf rfl (.tmp 94) (.tmp 100) rfl w.heap.size (.slice wa wn wc) _ LL (Ink.num 1) (LL ++ Ink.num 1) (wn + un) rfl rfl ho4 hu4.rd (by rw [hwn.out, hun.out]) rfl (by have := HLL.out; have := hnl.out; omega) hB4.size ?_); intro ad5 cp5 w5 ho5 hg5 hq5)
                have hp5 := hp4.beside ha3 hg5
                have ha5 := apart_new hp4 ha3 hq5
                have hB5 : Below w.heap.size w w5 := ho4.grown hB4 hg5 (Nat.le_refl _) hB4.size
                have hpn := hid hp5
                go_wp2_with fail
                refine (penbytes_any _ _ _ (LL ++ Ink.num 1) false w5 hp5 (by rw [List.length_append]; have := HLL.out; have := hnl.out; omega)).mono ?_
                rintro e w8 ⟨u8, rfl, hu8, hb8⟩
                have hp8 := (hp5).below hb8
                have ho8 := (ho5).below hb8
                have hB8 : Below w.heap.size w w8 := (hB5).trans (hb8.mono (hB5).size)
                go_wp2_with fail
                refine (same_eq _ _ (LL ++ Ink.num 1) w8 hu8.rd ho8.rd).mono ?_
                rintro e w9 ⟨rfl, rfl⟩
                go_wp2_with fail
                go_roundw
                case rel => exact ⟨k + 1, _, _, _, _, false, LL ++ Ink.num 1, by omega, by omega, by go_num, rfl, (by first | rfl | (simp; done) | (simp; omega)), hp8, ho8, ha5, (fun h => by cases h), by rw [List.length_append]; have := HLL.out; have := hnl.out; omega, hB8⟩
                case measure => simp [intOf]; omega
              · obtain rfl := hbl rfl
                have fn2 : (o.n < 1) = False := eq_false (by omega)
                go_wp2_with (at_builtin; go_must (refine appk rfl (.tmp 22) (.tmp 29) rfl (wr.heap.size + 1) (.slice (some ⟨wr.heap.size + 1, 0, none⟩) 0 0) _ [] o.t o.t (L) rfl rfl (by have := Own.empty (wr.alloc (.cells #[.int .u8 (o.d : Int), .int .i64 o.n, .slice A L C] 38)) (wr.heap.size + 1) (by simp); simpa using this) (hrd1.alloc _) (by rw [List.length_nil, Nat.zero_add, HLEN.out]) rfl (by rw [List.length_nil, HLEN.out]; omega) (by simp) ?_); intro ta tc wt hot hgt; have hbW : Below (wr.heap.size + 1) (wr.alloc (.cells #[.int .u8 (o.d : Int), .int .i64 o.n, .slice A L C] 38)) wt := ((Below.refl _ _).alloc (by simp) _).grown hgt (by simp) (fun q hq => by simp [Value.ownBlock] at hq; omega); have hA0t : wt.cell? ⟨wr.heap.size, 0, none⟩ = some (.int .u8 (o.d : Int)) := (hbW.cell (p := ⟨wr.heap.size, 0, none⟩) (by simp)).trans hA0; have hA1t : wt.cell? ⟨wr.heap.size, 1, none⟩ = some (.int .i64 o.n) := (hbW.cell (p := ⟨wr.heap.size, 1, none⟩) (by simp)).trans hA1; clear hgt)
                have hAt := hid hA1t
                have hbw2 : Below wr.heap.size wr wt := ((Below.refl wr.heap.size wr).alloc (Nat.le_refl _) (.cells #[.int .u8 (o.d : Int), .int .i64 o.n, .slice A L C] 38)).trans (hbW.mono (by omega))
                have hbt := hid (hbr.out.below hbw2)
                have hwt := hid (show wr.heap.size < wt.heap.size by have := hbW.size; simp at this; omega)
                have hBt := hid (hB.trans (hbw2.mono hB.size))
                clear hA0t hA1t hbw2 hbW hp hw hap hB hA0 hA1 hrd1
                refine (penbool_bad _ _ _ _ _ wt hbt.out.pen).mono ?_
                rintro e w3 ⟨rfl, rfl⟩
                have hA3 := hAt.out
                have ho3 := hbt.out.want
                have ha3 := hbt.out.apart
                have hB3 := hBt.out
                have hp3 := hbt.out.pen
                go_wp2_with fail
                refine (refnum_any 1 _ (by first | rfl | omega | simp) (by omega) wt).mono ?_
                rintro e w4 ⟨u4, rfl, hu4, hb4⟩
                have hp4 := hp3.below hb4
                have ho4 := ho3.below hb4
                have hB4 : Below w.heap.size w w4 := hB3.trans (hb4.mono hB3.size)
                obtain ⟨ua, un, uc, rfl⟩ : ∃ ua un uc, u4 = .slice ua un uc := by
                  obtain ⟨a, c, e, _⟩ := hu4.rd
                  exact ⟨a, _, c, e⟩
                have hun := hid hu4.caps.1
                have hnl := hid (show (Ink.num 1).length ≤ 110 by exact Nat.le_trans (Ink.num_length _).1 (by omega))
                clear hp3 ho3 hB3 hb4
                go_wp2_with (at_builtin; go_must (refine appf rfl (.tmp 94) (.tmp 100) rfl w.heap.size (.slice wa wn wc) _ ([] : List UInt8) (Ink.num 1) (([] : List UInt8) ++ Ink.num 1) (wn + un) rfl rfl ho4 hu4.rd (by rw [hwn.out, hun.out]) rfl (by have := HLL.out; have := hnl.out; omega) hB4.size ?_); intro ad5 cp5 w5 ho5 hg5 hq5)
                have hp5 := hp4.beside ha3 hg5
                have ha5 := apart_new hp4 ha3 hq5
                have hB5 : Below w.heap.size w w5 := ho4.grown hB4 hg5 (Nat.le_refl _) hB4.size
                go_wp2_with fail
                refine (penbytes_any _ _ _ [] true w5 hp5 (by simp)).mono ?_
                rintro e w8 ⟨u8, rfl, hu8, hb8⟩
                have hp8 := (hp5).below hb8
                have hB8 : Below w.heap.size w w8 := (hB5).trans (hb8.mono (hB5).size)
                go_wp2_with fail
                refine (same_eq _ _ [] w8 hu8.rd (Rd.nil _)).mono ?_
                rintro e w9 ⟨rfl, rfl⟩
                go_wp2_with fail
                go_roundw
                case rel => exact ⟨k + 1, _, none, 0, 0, true, [], by omega, by omega, by go_num, rfl, (by first | rfl | (simp; done) | (simp; omega)), hp8, Own.nil _ _, (fun _ h => by simp [Value.ownBlock] at h), (fun _ => rfl), by show 0 ≤ _; omega, hB8⟩
                case measure => simp [intOf]; omega
            · cases bad
              · have fn2 : (o.n < 1) = True := eq_true (by omega)
                have fn3 : (0 < o.n) = False := eq_false (by omega)
                go_wp2_with (at_builtin; go_must (refine appk rfl (.tmp 22) (.tmp 29) rfl (wr.heap.size + 1) (.slice (some ⟨wr.heap.size + 1, 0, none⟩) 0 0) _ [] o.t o.t (L) rfl rfl (by have := Own.empty (wr.alloc (.cells #[.int .u8 (o.d : Int), .int .i64 o.n, .slice A L C] 38)) (wr.heap.size + 1) (by simp); simpa using this) (hrd1.alloc _) (by rw [List.length_nil, Nat.zero_add, HLEN.out]) rfl (by rw [List.length_nil, HLEN.out]; omega) (by simp) ?_); intro ta tc wt hot hgt; have hbW : Below (wr.heap.size + 1) (wr.alloc (.cells #[.int .u8 (o.d : Int), .int .i64 o.n, .slice A L C] 38)) wt := ((Below.refl _ _).alloc (by simp) _).grown hgt (by simp) (fun q hq => by simp [Value.ownBlock] at hq; omega); have hA0t : wt.cell? ⟨wr.heap.size, 0, none⟩ = some (.int .u8 (o.d : Int)) := (hbW.cell (p := ⟨wr.heap.size, 0, none⟩) (by simp)).trans hA0; have hA1t : wt.cell? ⟨wr.heap.size, 1, none⟩ = some (.int .i64 o.n) := (hbW.cell (p := ⟨wr.heap.size, 1, none⟩) (by simp)).trans hA1; clear hgt)
                have hAt := hid hA1t
                have hbw2 : Below wr.heap.size wr wt := ((Below.refl wr.heap.size wr).alloc (Nat.le_refl _) (.cells #[.int .u8 (o.d : Int), .int .i64 o.n, .slice A L C] 38)).trans (hbW.mono (by omega))
                have hbt := hid (hbr.out.below hbw2)
                have hwt := hid (show wr.heap.size < wt.heap.size by have := hbW.size; simp at this; omega)
                have hBt := hid (hB.trans (hbw2.mono hB.size))
                clear hA0t hA1t hbw2 hbW hp hw hap hB hA0 hA1 hrd1
                refine (penbool_good _ w.heap.size _ LL false wt hbt.out.pen (by have := HLL.out; omega) hBt.out.size).mono ?_
                rintro e w3 ⟨rfl, v3, hp3, hk3, hf3⟩
                rw [if_neg (by decide)] at hp3
                have hA3 : w3.cell? ⟨wr.heap.size, 1, none⟩ = some (.int .i64 o.n) := (hk3.cell (p := ⟨wr.heap.size, 1, none⟩) hwt.out (fun hs => by
                  rcases hs with h | h
                  · have := hbt.out.pen.lt; have := hbr.out.pen.lt; exact absurd h (by show wr.heap.size ≠ _; omega)
                  · have := (hbr.out.pen.2.1.lt _ h).2; exact absurd this (by show ¬ wr.heap.size < _; omega))).trans hAt.out
                obtain ⟨ho3, ha3⟩ := hbt.out.wrote hk3 hf3
                have hB3 : Below w.heap.size w w3 := hBt.out.trans (PenAt.low hbt.out.pen hk3 (fun _ h => h) hBt.out.size)
                go_wp2_with fail
                refine (refnum_any 0 _ (by first | rfl | omega | simp) (by omega) w3).mono ?_
                rintro e w4 ⟨u4, rfl, hu4, hb4⟩
                have hp4 := hp3.below hb4
                have ho4 := ho3.below hb4
                have hB4 : Below w.heap.size w w4 := hB3.trans (hb4.mono hB3.size)
                obtain ⟨ua, un, uc, rfl⟩ : ∃ ua un uc, u4 = .slice ua un uc := by
                  obtain ⟨a, c, e, _⟩ := hu4.rd
                  exact ⟨a, _, c, e⟩
                have hun := hid hu4.caps.1
                have hnl := hid (show (Ink.num 0).length ≤ 110 by exact Nat.le_trans (Ink.num_length _).1 (by omega))
                clear hp3 ho3 hB3 hb4
                go_wp2_with (at_builtin; go_must (refine appf rfl (.tmp 94) (.tmp 100) rfl w.heap.size (.slice wa wn wc) _ LL (Ink.num 0) (LL ++ Ink.num 0) (wn + un) rfl rfl ho4 hu4.rd (by rw [hwn.out, hun.out]) rfl (by have := HLL.out; have := hnl.out; omega) hB4.size ?_); intro ad5 cp5 w5 ho5 hg5 hq5)
                have hp5 := hp4.beside ha3 hg5
                have ha5 := apart_new hp4 ha3 hq5
                have hB5 : Below w.heap.size w w5 := ho4.grown hB4 hg5 (Nat.le_refl _) hB4.size
                have hpn := hid hp5
                go_wp2_with fail
                refine (penbytes_any _ _ _ (LL ++ Ink.num 0) false w5 hp5 (by rw [List.length_append]; have := HLL.out; have := hnl.out; omega)).mono ?_
                rintro e w8 ⟨u8, rfl, hu8, hb8⟩
                have hp8 := (hp5).below hb8
                have ho8 := (ho5).below hb8
                have hB8 : Below w.heap.size w w8 := (hB5).trans (hb8.mono (hB5).size)
                go_wp2_with fail
                refine (same_eq _ _ (LL ++ Ink.num 0) w8 hu8.rd ho8.rd).mono ?_
                rintro e w9 ⟨rfl, rfl⟩
                go_wp2_with fail
                go_roundw
                case rel => exact ⟨k + 1, _, _, _, _, false, LL ++ Ink.num 0, by omega, by omega, by go_num, rfl, (by first | rfl | (simp; done) | (simp; omega)), hp8, ho8, ha5, (fun h => by cases h), by rw [List.length_append]; have := HLL.out; have := hnl.out; omega, hB8⟩
                case measure => simp [intOf]; omega
              · obtain rfl := hbl rfl
                have fn2 : (o.n < 1) = True := eq_true (by omega)
                have fn3 : (0 < o.n) = False := eq_false (by omega)
                go_wp2_with (at_builtin; go_must (refine appk rfl (.tmp 22) (.tmp 29) rfl (wr.heap.size + 1) (.slice (some ⟨wr.heap.size + 1, 0, none⟩) 0 0) _ [] o.t o.t (L) rfl rfl (by have := Own.empty (wr.alloc (.cells #[.int .u8 (o.d : Int), .int .i64 o.n, .slice A L C] 38)) (wr.heap.size + 1) (by simp); simpa using this) (hrd1.alloc _) (by rw [List.length_nil, Nat.zero_add, HLEN.out]) rfl (by rw [List.length_nil, HLEN.out]; omega) (by simp) ?_); intro ta tc wt hot hgt; have hbW : Below (wr.heap.size + 1) (wr.alloc (.cells #[.int .u8 (o.d : Int), .int .i64 o.n, .slice A L C] 38)) wt := ((Below.refl _ _).alloc (by simp) _).grown hgt (by simp) (fun q hq => by simp [Value.ownBlock] at hq; omega); have hA0t : wt.cell? ⟨wr.heap.size, 0, none⟩ = some (.int .u8 (o.d : Int)) := (hbW.cell (p := ⟨wr.heap.size, 0, none⟩) (by simp)).trans hA0; have hA1t : wt.cell? ⟨wr.heap.size, 1, none⟩ = some (.int .i64 o.n) := (hbW.cell (p := ⟨wr.heap.size, 1, none⟩) (by simp)).trans hA1; clear hgt)
                have hAt := hid hA1t
                have hbw2 : Below wr.heap.size wr wt := ((Below.refl wr.heap.size wr).alloc (Nat.le_refl _) (.cells #[.int .u8 (o.d : Int), .int .i64 o.n, .slice A L C] 38)).trans (hbW.mono (by omega))
                have hbt := hid (hbr.out.below hbw2)
                have hwt := hid (show wr.heap.size < wt.heap.size by have := hbW.size; simp at this; omega)
                have hBt := hid (hB.trans (hbw2.mono hB.size))
                clear hA0t hA1t hbw2 hbW hp hw hap hB hA0 hA1 hrd1
                refine (penbool_bad _ _ _ _ _ wt hbt.out.pen).mono ?_
                rintro e w3 ⟨rfl, rfl⟩
                have hA3 := hAt.out
                have ho3 := hbt.out.want
                have ha3 := hbt.out.apart
                have hB3 := hBt.out
                have hp3 := hbt.out.pen
                go_wp2_with fail
                refine (refnum_any 0 _ (by first | rfl | omega | simp) (by omega) wt).mono ?_
                rintro e w4 ⟨u4, rfl, hu4, hb4⟩
                have hp4 := hp3.below hb4
                have ho4 := ho3.below hb4
                have hB4 : Below w.heap.size w w4 := hB3.trans (hb4.mono hB3.size)
                obtain ⟨ua, un, uc, rfl⟩ : ∃ ua un uc, u4 = .slice ua un uc := by
                  obtain ⟨a, c, e, _⟩ := hu4.rd
                  exact ⟨a, _, c, e⟩
                have hun := hid hu4.caps.1
                have hnl := hid (show (Ink.num 0).length ≤ 110 by exact Nat.le_trans (Ink.num_length _).1 (by omega))
                clear hp3 ho3 hB3 hb4
                go_wp2_with (at_builtin; go_must (refine appf rfl (.tmp 94) (.tmp 100) rfl w.heap.size (.slice wa wn wc) _ ([] : List UInt8) (Ink.num 0) (([] : List UInt8) ++ Ink.num 0) (wn + un) rfl rfl ho4 hu4.rd (by rw [hwn.out, hun.out]) rfl (by have := HLL.out; have := hnl.out; omega) hB4.size ?_); intro ad5 cp5 w5 ho5 hg5 hq5)
                have hp5 := hp4.beside ha3 hg5
                have ha5 := apart_new hp4 ha3 hq5
                have hB5 : Below w.heap.size w w5 := ho4.grown hB4 hg5 (Nat.le_refl _) hB4.size
                go_wp2_with fail
                refine (penbytes_any _ _ _ [] true w5 hp5 (by simp)).mono ?_
                rintro e w8 ⟨u8, rfl, hu8, hb8⟩
                have hp8 := (hp5).below hb8
                have hB8 : Below w.heap.size w w8 := (hB5).trans (hb8.mono (hB5).size)
                go_wp2_with fail
                refine (same_eq _ _ [] w8 hu8.rd (Rd.nil _)).mono ?_
                rintro e w9 ⟨rfl, rfl⟩
                go_wp2_with fail
                go_roundw
                case rel => exact ⟨k + 1, _, none, 0, 0, true, [], by omega, by omega, by go_num, rfl, (by first | rfl | (simp; done) | (simp; omega)), hp8, Own.nil _ _, (fun _ h => by simp [Value.ownBlock] at h), (fun _ => rfl), by show 0 ≤ _; omega, hB8⟩
                case measure => simp [intOf]; omega
          · have hqi : (o.d : Int) % 4 = 3 := by omega
            cases bad
            · go_wp2_with (at_builtin; go_must (refine appk rfl (.tmp 22) (.tmp 29) rfl (wr.heap.size + 1) (.slice (some ⟨wr.heap.size + 1, 0, none⟩) 0 0) _ [] o.t o.t (L) rfl rfl (by have := Own.empty (wr.alloc (.cells #[.int .u8 (o.d : Int), .int .i64 o.n, .slice A L C] 38)) (wr.heap.size + 1) (by simp); simpa using this) (hrd1.alloc _) (by rw [List.length_nil, Nat.zero_add, HLEN.out]) rfl (by rw [List.length_nil, HLEN.out]; omega) (by simp) ?_); intro ta tc wt hot hgt; have hbW : Below (wr.heap.size + 1) (wr.alloc (.cells #[.int .u8 (o.d : Int), .int .i64 o.n, .slice A L C] 38)) wt := ((Below.refl _ _).alloc (by simp) _).grown hgt (by simp) (fun q hq => by simp [Value.ownBlock] at hq; omega); have hA0t : wt.cell? ⟨wr.heap.size, 0, none⟩ = some (.int .u8 (o.d : Int)) := (hbW.cell (p := ⟨wr.heap.size, 0, none⟩) (by simp)).trans hA0; have hA1t : wt.cell? ⟨wr.heap.size, 1, none⟩ = some (.int .i64 o.n) := (hbW.cell (p := ⟨wr.heap.size, 1, none⟩) (by simp)).trans hA1; clear hgt)
              have hAt := hid hA1t
              have hbw2 : Below wr.heap.size wr wt := ((Below.refl wr.heap.size wr).alloc (Nat.le_refl _) (.cells #[.int .u8 (o.d : Int), .int .i64 o.n, .slice A L C] 38)).trans (hbW.mono (by omega))
              have hbt := hid (hbr.out.below hbw2)
              have hwt := hid (show wr.heap.size < wt.heap.size by have := hbW.size; simp at this; omega)
              have hBt := hid (hB.trans (hbw2.mono hB.size))
              clear hA0t hA1t hbw2 hbW hp hw hap hB hA0 hA1 hrd1
              have hsep : ∀ k, (Value.slice ta L tc).ownBlock = some k → ¬ penS w1.heap.size v k := fun k hk hs => by
                have h1 := (hot.lt k hk).1
                rcases hs with h | h
                · have := hbr.out.pen.lt; omega
                · have := (hbr.out.pen.2.1.lt k h).2; omega
              refine (pentext_at _ w.heap.size _ LL _ o.t wt hbt.out.pen hot.rd (.inr hsep) (by have := HLL.out; omega) (by rw [HLEN.out]; omega) hBt.out.size).mono ?_
              rintro e w3 ⟨rfl, v3, hp3, hk3, hf3⟩
              have hot3 := hot.keeps hk3 hsep
              have hvv := hid (show ∀ k, v3.ownBlock = some k → k < wr.heap.size + 1 ∨ wt.heap.size ≤ k from fun k hk => by
                rcases hf3 k hk with h | h
                · left; have := (hbr.out.pen.2.1.lt k h).2; omega
                · exact .inr h)
              have hszt := hid hk3.size
              have hA3 : w3.cell? ⟨wr.heap.size, 1, none⟩ = some (.int .i64 o.n) := (hk3.cell (p := ⟨wr.heap.size, 1, none⟩) hwt.out (fun hs => by
                rcases hs with h | h
                · have := hbt.out.pen.lt; have := hbr.out.pen.lt; exact absurd h (by show wr.heap.size ≠ _; omega)
                · have := (hbr.out.pen.2.1.lt _ h).2; exact absurd this (by show ¬ wr.heap.size < _; omega))).trans hAt.out
              obtain ⟨ho3, ha3⟩ := hbt.out.wrote hk3 hf3
              have hB3 : Below w.heap.size w w3 := hBt.out.trans (PenAt.low hbt.out.pen hk3 (fun _ h => h) hBt.out.size)
              go_wp2_with fail
              refine (reftext_any _ o.t w3 hot3.rd (by rw [HLEN.out]; omega)).mono ?_
              rintro e w4 ⟨u4, rfl, hu4, hb4⟩
              have hp4 := hp3.below hb4
              have ho4 := ho3.below hb4
              have hB4 : Below w.heap.size w w4 := hB3.trans (hb4.mono hB3.size)
              obtain ⟨ua, un, uc, rfl⟩ : ∃ ua un uc, u4 = .slice ua un uc := by
                obtain ⟨a, c, e, _⟩ := hu4.rd
                exact ⟨a, _, c, e⟩
              have hun := hid hu4.caps.1
              have hnl := hid (show (Ink.text o.t).length ≤ 110 by unfold Ink.text; rw [List.length_append, HLEN.out]; have := (Ink.num_length o.t.length).1; rw [HLEN.out] at this; omega)
              have hot4 := hot3.below hb4
              have hszb := hb4.size
              clear hp3 ho3 hB3 hb4
              go_wp2_with (at_builtin; go_must (refine appf rfl (.tmp 37) (.tmp 39) rfl w.heap.size (.slice wa wn wc) _ LL (Ink.text o.t) (LL ++ Ink.text o.t) (wn + un) rfl rfl ho4 hu4.rd (by rw [hwn.out, hun.out]) rfl (by have := HLL.out; have := hnl.out; omega) hB4.size ?_); intro ad5 cp5 w5 ho5 hg5 hq5)
              have hp5 := hp4.beside ha3 hg5
              have ha5 := apart_new hp4 ha3 hq5
              have hB5 : Below w.heap.size w w5 := ho4.grown hB4 hg5 (Nat.le_refl _) hB4.size
              have hot5 := hot4.keeps (Keeps.of_grown hg5) (fun q hq e => by
                have h1 := (hot4.lt q hq).1
                have h2 := (hbr.out.want.lt q e).2
                omega)
              have hqq := hid (show ∀ q, (Value.slice ad5 (wn + un) cp5).ownBlock = some q → q < wr.heap.size + 1 ∨ wt.heap.size ≤ q from fun q hq => by
                rcases hq5 q hq with h | h
                · left; have := (hbr.out.want.lt q h).2; omega
                · right; have := hszt.out; have := hszb; omega)
              have hob := hid (hbr.out.pen.lt)
              have HOT := hid hot
              obtain ⟨B0, hB0⟩ : ∃ B0, B0 = wr.heap.size := ⟨_, rfl⟩
              rw [← hB0] at hot5 hvv hqq hob HOT
              clear hot hg5 hq5 hp4 ho4 hot4 hu4
              go_wp2_with fail
              go_loopw [43] (fun i wi => ∃ (j : Nat) (l' : List UInt8), j ≤ L ∧ i = .int .i64 j ∧ Own wi (B0 + 1) (.slice ta (L) tc) l' ∧ l'.length = L ∧ PenAt wi w.heap.size w1.heap.size v3 (LL ++ Ink.text o.t) false ∧ Own wi w.heap.size (.slice ad5 (wn + un) cp5) (LL ++ Ink.text o.t) ∧ Below w.heap.size w wi) (fun i _ => L - (intOf i).toNat)
              case atStart => exact ⟨0, o.t, by omega, rfl, hot5, HLEN.out, hp5, ho5, hB5⟩
              case round =>
                clear hot5 hp5 ho5 hB5
                obtain ⟨j, l', hj, rfl, hti, hli, hpi, hoi, hBi⟩ := hrel
                by_cases hjl : j < L
                · rcases hti.shape with ⟨e, _⟩ | ⟨g, cp, e, hg1, hg2, _, _⟩
                  · simp only [Value.slice.injEq] at e
                    omega
                  · simp only [Value.slice.injEq] at e
                    obtain ⟨rfl, e2, e3⟩ := e
                    clear e2 e3
                    have hgt := (HOT.out.lt g rfl).2
                    obtain ⟨x, hx⟩ : ∃ x, x = l'.getD j 0 := ⟨_, rfl⟩
                    have hcell := hti.cell j (by omega)
                    rw [← hx, bv_eq] at hcell
                    have hxx := xor2 x
                    have hfz := hti.frozen j
                    have hst := hid (hti.stored j (turn1 x) _ rfl)
                    have hpi2 := hid (show ∀ V, PenAt (wr.setCell ⟨g, j, none⟩ V) w.heap.size w1.heap.size v3 (LL ++ Ink.text o.t) false from fun V => hpi.keeps (set_keeps wr g j V) (fun k hk e => by
                      rcases hk with h | h
                      · have := hob.out; omega
                      · rcases hvv.out k h with h' | h' <;> omega))
                    have hoi2 := hid (show ∀ V, Own (wr.setCell ⟨g, j, none⟩ V) w.heap.size (.slice ad5 (wn + un) cp5) (LL ++ Ink.text o.t) from fun V => hoi.keeps (set_keeps wr g j V) (fun k hk e => by
                      rcases hqq.out k hk with h' | h' <;> omega))
                    have hBi2 := hid (show ∀ V, Below w.heap.size w (wr.setCell ⟨g, j, none⟩ V) from fun V => hBi.trans ((set_keeps wr g j V).below hBi.size (fun i hi => by subst hi; have := hob.out; have := hbr.out.pen.2.2.2; omega)))
                    have HLI := hid hli
                    clear hti hpi hoi hBi hx hB0 hli
                    go_wp2_with fail
                    go_roundw
                    case rel => exact ⟨j + 1, _, by omega, by go_num, hst.out, by rw [List.length_set]; exact HLI.out, hpi2.out _, hoi2.out _, hBi2.out _⟩
                    case measure => simp [intOf]; omega
                · obtain rfl : L = j := by omega
                  skip
                  have hpn := hid hpi
                  go_wp2_with fail
                  refine (penbytes_any _ _ _ (LL ++ Ink.text o.t) false wr hpi (by rw [List.length_append]; have := HLL.out; have := hnl.out; omega)).mono ?_
                  rintro e w8 ⟨u8, rfl, hu8, hb8⟩
                  have hp8 := (hpi).below hb8
                  have ho8 := (hoi).below hb8
                  have hB8 : Below w.heap.size w w8 := (hBi).trans (hb8.mono (hBi).size)
                  go_wp2_with fail
                  refine (same_eq _ _ (LL ++ Ink.text o.t) w8 hu8.rd ho8.rd).mono ?_
                  rintro e w9 ⟨rfl, rfl⟩
                  go_wp2_with fail
                  go_roundw
                  case rel => exact ⟨k + 1, _, _, _, _, false, LL ++ Ink.text o.t, by omega, by omega, by go_num, rfl, (by first | rfl | (simp; done) | (simp; omega)), hp8, ho8, ha5, (fun h => by cases h), by rw [List.length_append]; have := HLL.out; have := hnl.out; omega, hB8⟩
                  case measure => simp [intOf]; omega
            · obtain rfl := hbl rfl
              go_wp2_with (at_builtin; go_must (refine appk rfl (.tmp 22) (.tmp 29) rfl (wr.heap.size + 1) (.slice (some ⟨wr.heap.size + 1, 0, none⟩) 0 0) _ [] o.t o.t (L) rfl rfl (by have := Own.empty (wr.alloc (.cells #[.int .u8 (o.d : Int), .int .i64 o.n, .slice A L C] 38)) (wr.heap.size + 1) (by simp); simpa using this) (hrd1.alloc _) (by rw [List.length_nil, Nat.zero_add, HLEN.out]) rfl (by rw [List.length_nil, HLEN.out]; omega) (by simp) ?_); intro ta tc wt hot hgt; have hbW : Below (wr.heap.size + 1) (wr.alloc (.cells #[.int .u8 (o.d : Int), .int .i64 o.n, .slice A L C] 38)) wt := ((Below.refl _ _).alloc (by simp) _).grown hgt (by simp) (fun q hq => by simp [Value.ownBlock] at hq; omega); have hA0t : wt.cell? ⟨wr.heap.size, 0, none⟩ = some (.int .u8 (o.d : Int)) := (hbW.cell (p := ⟨wr.heap.size, 0, none⟩) (by simp)).trans hA0; have hA1t : wt.cell? ⟨wr.heap.size, 1, none⟩ = some (.int .i64 o.n) := (hbW.cell (p := ⟨wr.heap.size, 1, none⟩) (by simp)).trans hA1; clear hgt)
              have hAt := hid hA1t
              have hbw2 : Below wr.heap.size wr wt := ((Below.refl wr.heap.size wr).alloc (Nat.le_refl _) (.cells #[.int .u8 (o.d : Int), .int .i64 o.n, .slice A L C] 38)).trans (hbW.mono (by omega))
              have hbt := hid (hbr.out.below hbw2)
              have hwt := hid (show wr.heap.size < wt.heap.size by have := hbW.size; simp at this; omega)
              have hBt := hid (hB.trans (hbw2.mono hB.size))
              clear hA0t hA1t hbw2 hbW hp hw hap hB hA0 hA1 hrd1
              have hsep : ∀ k, (Value.slice ta L tc).ownBlock = some k → ¬ penS w1.heap.size v k := fun k hk hs => by
                have h1 := (hot.lt k hk).1
                rcases hs with h | h
                · have := hbr.out.pen.lt; omega
                · have := (hbr.out.pen.2.1.lt k h).2; omega
              have hszt := hid (Nat.le_refl wt.heap.size)
              refine (pentext_bad _ _ _ _ _ wt hbt.out.pen).mono ?_
              rintro e w3 ⟨rfl, rfl⟩
              have hot3 := hot
              have hvv := hid (show ∀ k, v.ownBlock = some k → k < wr.heap.size + 1 ∨ wt.heap.size ≤ k from fun k hk => .inl (by have := (hbr.out.pen.2.1.lt k hk).2; omega))
              have hA3 := hAt.out
              have ho3 := hbt.out.want
              have ha3 := hbt.out.apart
              have hB3 := hBt.out
              have hp3 := hbt.out.pen
              go_wp2_with fail
              refine (reftext_any _ o.t wt hot3.rd (by rw [HLEN.out]; omega)).mono ?_
              rintro e w4 ⟨u4, rfl, hu4, hb4⟩
              have hp4 := hp3.below hb4
              have ho4 := ho3.below hb4
              have hB4 : Below w.heap.size w w4 := hB3.trans (hb4.mono hB3.size)
              obtain ⟨ua, un, uc, rfl⟩ : ∃ ua un uc, u4 = .slice ua un uc := by
                obtain ⟨a, c, e, _⟩ := hu4.rd
                exact ⟨a, _, c, e⟩
              have hun := hid hu4.caps.1
              have hnl := hid (show (Ink.text o.t).length ≤ 110 by unfold Ink.text; rw [List.length_append, HLEN.out]; have := (Ink.num_length o.t.length).1; rw [HLEN.out] at this; omega)
              have hot4 := hot3.below hb4
              have hszb := hb4.size
              clear hp3 ho3 hB3 hb4
              go_wp2_with (at_builtin; go_must (refine appf rfl (.tmp 37) (.tmp 39) rfl w.heap.size (.slice wa wn wc) _ ([] : List UInt8) (Ink.text o.t) (([] : List UInt8) ++ Ink.text o.t) (wn + un) rfl rfl ho4 hu4.rd (by rw [hwn.out, hun.out]) rfl (by have := HLL.out; have := hnl.out; omega) hB4.size ?_); intro ad5 cp5 w5 ho5 hg5 hq5)
              have hp5 := hp4.beside ha3 hg5
              have ha5 := apart_new hp4 ha3 hq5
              have hB5 : Below w.heap.size w w5 := ho4.grown hB4 hg5 (Nat.le_refl _) hB4.size
              have hot5 := hot4.keeps (Keeps.of_grown hg5) (fun q hq e => by
                have h1 := (hot4.lt q hq).1
                have h2 := (hbr.out.want.lt q e).2
                omega)
              have hqq := hid (show ∀ q, (Value.slice ad5 (wn + un) cp5).ownBlock = some q → q < wr.heap.size + 1 ∨ wt.heap.size ≤ q from fun q hq => by
                rcases hq5 q hq with h | h
                · left; have := (hbr.out.want.lt q h).2; omega
                · right; have := hszt.out; have := hszb; omega)
              have hob := hid (hbr.out.pen.lt)
              have HOT := hid hot
              obtain ⟨B0, hB0⟩ : ∃ B0, B0 = wr.heap.size := ⟨_, rfl⟩
              rw [← hB0] at hot5 hvv hqq hob HOT
              clear hot hg5 hq5 hp4 ho4 hot4 hu4
              go_wp2_with fail
              go_loopw [43] (fun i wi => ∃ (j : Nat) (l' : List UInt8), j ≤ L ∧ i = .int .i64 j ∧ Own wi (B0 + 1) (.slice ta (L) tc) l' ∧ l'.length = L ∧ PenAt wi w.heap.size w1.heap.size v (([] : List UInt8)) true ∧ Own wi w.heap.size (.slice ad5 (wn + un) cp5) (([] : List UInt8) ++ Ink.text o.t) ∧ Below w.heap.size w wi) (fun i _ => L - (intOf i).toNat)
              case atStart => exact ⟨0, o.t, by omega, rfl, hot5, HLEN.out, hp5, ho5, hB5⟩
              case round =>
                clear hot5 hp5 ho5 hB5
                obtain ⟨j, l', hj, rfl, hti, hli, hpi, hoi, hBi⟩ := hrel
                by_cases hjl : j < L
                · rcases hti.shape with ⟨e, _⟩ | ⟨g, cp, e, hg1, hg2, _, _⟩
                  · simp only [Value.slice.injEq] at e
                    omega
                  · simp only [Value.slice.injEq] at e
                    obtain ⟨rfl, e2, e3⟩ := e
                    clear e2 e3
                    have hgt := (HOT.out.lt g rfl).2
                    obtain ⟨x, hx⟩ : ∃ x, x = l'.getD j 0 := ⟨_, rfl⟩
                    have hcell := hti.cell j (by omega)
                    rw [← hx, bv_eq] at hcell
                    have hxx := xor2 x
                    have hfz := hti.frozen j
                    have hst := hid (hti.stored j (turn1 x) _ rfl)
                    have hpi2 := hid (show ∀ V, PenAt (wr.setCell ⟨g, j, none⟩ V) w.heap.size w1.heap.size v (([] : List UInt8)) true from fun V => hpi.keeps (set_keeps wr g j V) (fun k hk e => by
                      rcases hk with h | h
                      · have := hob.out; omega
                      · rcases hvv.out k h with h' | h' <;> omega))
                    have hoi2 := hid (show ∀ V, Own (wr.setCell ⟨g, j, none⟩ V) w.heap.size (.slice ad5 (wn + un) cp5) (([] : List UInt8) ++ Ink.text o.t) from fun V => hoi.keeps (set_keeps wr g j V) (fun k hk e => by
                      rcases hqq.out k hk with h' | h' <;> omega))
                    have hBi2 := hid (show ∀ V, Below w.heap.size w (wr.setCell ⟨g, j, none⟩ V) from fun V => hBi.trans ((set_keeps wr g j V).below hBi.size (fun i hi => by subst hi; have := hob.out; have := hbr.out.pen.2.2.2; omega)))
                    have HLI := hid hli
                    clear hti hpi hoi hBi hx hB0 hli
                    go_wp2_with fail
                    go_roundw
                    case rel => exact ⟨j + 1, _, by omega, by go_num, hst.out, by rw [List.length_set]; exact HLI.out, hpi2.out _, hoi2.out _, hBi2.out _⟩
                    case measure => simp [intOf]; omega
                · obtain rfl : L = j := by omega
                  skip
                  go_wp2_with fail
                  refine (penbytes_any _ _ _ [] true wr hpi (by simp)).mono ?_
                  rintro e w8 ⟨u8, rfl, hu8, hb8⟩
                  have hp8 := (hpi).below hb8
                  have hB8 : Below w.heap.size w w8 := (hBi).trans (hb8.mono (hBi).size)
                  go_wp2_with fail
                  refine (same_eq _ _ [] w8 hu8.rd (Rd.nil _)).mono ?_
                  rintro e w9 ⟨rfl, rfl⟩
                  go_wp2_with fail
                  go_roundw
                  case rel => exact ⟨k + 1, _, none, 0, 0, true, [], by omega, by omega, by go_num, rfl, (by first | rfl | (simp; done) | (simp; omega)), hp8, Own.nil _ _, (fun _ h => by simp [Value.ownBlock] at h), (fun _ => rfl), by show 0 ≤ _; omega, hB8⟩
                  case measure => simp [intOf]; omega
        · rw [show min L 100 = 100 by omega] at hrd hlen
          have HLEN := hid hlen
          have hrd1 : Rd (wr.alloc (.cells #[.int .u8 (o.d : Int), .int .i64 o.n, .slice A L C] 38)) (.slice A (100) C) o.t := (hrd.below hB).alloc _
          have hA1 : (wr.alloc (.cells #[.int .u8 (o.d : Int), .int .i64 o.n, .slice A L C] 38)).cell? ⟨wr.heap.size, 1, none⟩ = some (.int .i64 o.n) := by rw [cell_of_row _ _ _ _ _ _ (heap_alloc_new wr _)]; rfl
          have hA0 : (wr.alloc (.cells #[.int .u8 (o.d : Int), .int .i64 o.n, .slice A L C] 38)).cell? ⟨wr.heap.size, 0, none⟩ = some (.int .u8 (o.d : Int)) := by rw [cell_of_row _ _ _ _ _ _ (heap_alloc_new wr _)]; rfl
          have hl100 : 100 ≤ 100 := by omega
          have f1 : (0 : Int) ≤ (L : Int) := by omega
          have f0 : (100 : Int) < (L : Int) := by omega
          have hq : o.d % 4 = 0 ∨ o.d % 4 = 1 ∨ o.d % 4 = 2 ∨ o.d % 4 = 3 := by omega
          clear hlen hrd
          rcases hq with hq | hq | hq | hq
          · have hqi : (o.d : Int) % 4 = 0 := by omega
            cases bad
            · go_wp2_with (at_builtin; go_must (refine appk rfl (.tmp 22) (.tmp 29) rfl (wr.heap.size + 1) (.slice (some ⟨wr.heap.size + 1, 0, none⟩) 0 0) _ [] o.t o.t (100) rfl rfl (by have := Own.empty (wr.alloc (.cells #[.int .u8 (o.d : Int), .int .i64 o.n, .slice A L C] 38)) (wr.heap.size + 1) (by simp); simpa using this) (hrd1.alloc _) (by rw [List.length_nil, Nat.zero_add, HLEN.out]) rfl (by rw [List.length_nil, HLEN.out]; omega) (by simp) ?_); intro ta tc wt hot hgt; have hbW : Below (wr.heap.size + 1) (wr.alloc (.cells #[.int .u8 (o.d : Int), .int .i64 o.n, .slice A L C] 38)) wt := ((Below.refl _ _).alloc (by simp) _).grown hgt (by simp) (fun q hq => by simp [Value.ownBlock] at hq; omega); have hA0t : wt.cell? ⟨wr.heap.size, 0, none⟩ = some (.int .u8 (o.d : Int)) := (hbW.cell (p := ⟨wr.heap.size, 0, none⟩) (by simp)).trans hA0; have hA1t : wt.cell? ⟨wr.heap.size, 1, none⟩ = some (.int .i64 o.n) := (hbW.cell (p := ⟨wr.heap.size, 1, none⟩) (by simp)).trans hA1; clear hgt)
              have hAt := hid hA1t
              have hbw2 : Below wr.heap.size wr wt := ((Below.refl wr.heap.size wr).alloc (Nat.le_refl _) (.cells #[.int .u8 (o.d : Int), .int .i64 o.n, .slice A L C] 38)).trans (hbW.mono (by omega))
              have hbt := hid (hbr.out.below hbw2)
              have hwt := hid (show wr.heap.size < wt.heap.size by have := hbW.size; simp at this; omega)
              have hBt := hid (hB.trans (hbw2.mono hB.size))
              clear hA0t hA1t hbw2 hbW hp hw hap hB hA0 hA1 hrd1
              refine (pennum_at _ w.heap.size _ LL (Go.Proofs.Ytoglhleljknhcaa.u64 o.n) _ (wrap_u64z _) (u64_lt _) wt hbt.out.pen (by have := HLL.out; omega) hBt.out.size).mono ?_
              rintro e w3 ⟨rfl, v3, hp3, hk3, hf3⟩
              have hA3 : w3.cell? ⟨wr.heap.size, 1, none⟩ = some (.int .i64 o.n) := (hk3.cell (p := ⟨wr.heap.size, 1, none⟩) hwt.out (fun hs => by
                rcases hs with h | h
                · have := hbt.out.pen.lt; have := hbr.out.pen.lt; exact absurd h (by show wr.heap.size ≠ _; omega)
                · have := (hbr.out.pen.2.1.lt _ h).2; exact absurd this (by show ¬ wr.heap.size < _; omega))).trans hAt.out
              obtain ⟨ho3, ha3⟩ := hbt.out.wrote hk3 hf3
              have hB3 : Below w.heap.size w w3 := hBt.out.trans (PenAt.low hbt.out.pen hk3 (fun _ h => h) hBt.out.size)
              go_wp2_with fail
              refine (refnum_any (Go.Proofs.Ytoglhleljknhcaa.u64 o.n) _ (wrap_u64z _) (u64_lt _) w3).mono ?_
              rintro e w4 ⟨u4, rfl, hu4, hb4⟩
              have hp4 := hp3.below hb4
              have ho4 := ho3.below hb4
              have hB4 : Below w.heap.size w w4 := hB3.trans (hb4.mono hB3.size)
              obtain ⟨ua, un, uc, rfl⟩ : ∃ ua un uc, u4 = .slice ua un uc := by
                obtain ⟨a, c, e, _⟩ := hu4.rd
                exact ⟨a, _, c, e⟩
              have hun := hid hu4.caps.1
              have hnl := hid (show (Ink.num (Go.Proofs.Ytoglhleljknhcaa.u64 o.n)).length ≤ 110 by exact Nat.le_trans (Ink.num_length _).1 (by omega))
              clear hp3 ho3 hB3 hb4
              go_wp2_with (at_builtin; go_must (refine appf rfl (.tmp 60) (.tmp 64) rfl w.heap.size (.slice wa wn wc) _ LL (Ink.num (Go.Proofs.Ytoglhleljknhcaa.u64 o.n)) (LL ++ Ink.num (Go.Proofs.Ytoglhleljknhcaa.u64 o.n)) (wn + un) rfl rfl ho4 hu4.rd (by rw [hwn.out, hun.out]) rfl (by have := HLL.out; have := hnl.out; omega) hB4.size ?_); intro ad5 cp5 w5 ho5 hg5 hq5)
              have hp5 := hp4.beside ha3 hg5
              have ha5 := apart_new hp4 ha3 hq5
              have hB5 : Below w.heap.size w w5 := ho4.grown hB4 hg5 (Nat.le_refl _) hB4.size
              have hpn := hid hp5
              go_wp2_with fail
              refine (penbytes_any _ _ _ (LL ++ Ink.num (Go.Proofs.Ytoglhleljknhcaa.u64 o.n)) false w5 hp5 (by rw [List.length_append]; have := HLL.out; have := hnl.out; omega)).mono ?_
              rintro e w8 ⟨u8, rfl, hu8, hb8⟩
              have hp8 := (hp5).below hb8
              have ho8 := (ho5).below hb8
              have hB8 : Below w.heap.size w w8 := (hB5).trans (hb8.mono (hB5).size)
              go_wp2_with fail
              refine (same_eq _ _ (LL ++ Ink.num (Go.Proofs.Ytoglhleljknhcaa.u64 o.n)) w8 hu8.rd ho8.rd).mono ?_
              rintro e w9 ⟨rfl, rfl⟩
              go_wp2_with fail
              go_roundw
              case rel => exact ⟨k + 1, _, _, _, _, false, LL ++ Ink.num (Go.Proofs.Ytoglhleljknhcaa.u64 o.n), by omega, by omega, by go_num, rfl, (by first | rfl | (simp; done) | (simp; omega)), hp8, ho8, ha5, (fun h => by cases h), by rw [List.length_append]; have := HLL.out; have := hnl.out; omega, hB8⟩
              case measure => simp [intOf]; omega
            · obtain rfl := hbl rfl
              go_wp2_with (at_builtin; go_must (refine appk rfl (.tmp 22) (.tmp 29) rfl (wr.heap.size + 1) (.slice (some ⟨wr.heap.size + 1, 0, none⟩) 0 0) _ [] o.t o.t (100) rfl rfl (by have := Own.empty (wr.alloc (.cells #[.int .u8 (o.d : Int), .int .i64 o.n, .slice A L C] 38)) (wr.heap.size + 1) (by simp); simpa using this) (hrd1.alloc _) (by rw [List.length_nil, Nat.zero_add, HLEN.out]) rfl (by rw [List.length_nil, HLEN.out]; omega) (by simp) ?_); intro ta tc wt hot hgt; have hbW : Below (wr.heap.size + 1) (wr.alloc (.cells #[.int .u8 (o.d : Int), .int .i64 o.n, .slice A L C] 38)) wt := ((Below.refl _ _).alloc (by simp) _).grown hgt (by simp) (fun q hq => by simp [Value.ownBlock] at hq; omega); have hA0t : wt.cell? ⟨wr.heap.size, 0, none⟩ = some (.int .u8 (o.d : Int)) := (hbW.cell (p := ⟨wr.heap.size, 0, none⟩) (by simp)).trans hA0; have hA1t : wt.cell? ⟨wr.heap.size, 1, none⟩ = some (.int .i64 o.n) := (hbW.cell (p := ⟨wr.heap.size, 1, none⟩) (by simp)).trans hA1; clear hgt)
              have hAt := hid hA1t
              have hbw2 : Below wr.heap.size wr wt := ((Below.refl wr.heap.size wr).alloc (Nat.le_refl _) (.cells #[.int .u8 (o.d : Int), .int .i64 o.n, .slice A L C] 38)).trans (hbW.mono (by omega))
              have hbt := hid (hbr.out.below hbw2)
              have hwt := hid (show wr.heap.size < wt.heap.size by have := hbW.size; simp at this; omega)
              have hBt := hid (hB.trans (hbw2.mono hB.size))
              clear hA0t hA1t hbw2 hbW hp hw hap hB hA0 hA1 hrd1
              refine (pennum_bad _ _ _ _ _ wt hbt.out.pen).mono ?_
              rintro e w3 ⟨rfl, rfl⟩
              have hA3 := hAt.out
              have ho3 := hbt.out.want
              have ha3 := hbt.out.apart
              have hB3 := hBt.out
              have hp3 := hbt.out.pen
              go_wp2_with fail
              refine (refnum_any (Go.Proofs.Ytoglhleljknhcaa.u64 o.n) _ (wrap_u64z _) (u64_lt _) wt).mono ?_
              rintro e w4 ⟨u4, rfl, hu4, hb4⟩
              have hp4 := hp3.below hb4
              have ho4 := ho3.below hb4
              have hB4 : Below w.heap.size w w4 := hB3.trans (hb4.mono hB3.size)
              obtain ⟨ua, un, uc, rfl⟩ : ∃ ua un uc, u4 = .slice ua un uc := by
                obtain ⟨a, c, e, _⟩ := hu4.rd
                exact ⟨a, _, c, e⟩
              have hun := hid hu4.caps.1
              have hnl := hid (show (Ink.num (Go.Proofs.Ytoglhleljknhcaa.u64 o.n)).length ≤ 110 by exact Nat.le_trans (Ink.num_length _).1 (by omega))
              clear hp3 ho3 hB3 hb4
              go_wp2_with (at_builtin; go_must (refine appf rfl (.tmp 60) (.tmp 64) rfl w.heap.size (.slice wa wn wc) _ ([] : List UInt8) (Ink.num (Go.Proofs.Ytoglhleljknhcaa.u64 o.n)) (([] : List UInt8) ++ Ink.num (Go.Proofs.Ytoglhleljknhcaa.u64 o.n)) (wn + un) rfl rfl ho4 hu4.rd (by rw [hwn.out, hun.out]) rfl (by have := HLL.out; have := hnl.out; omega) hB4.size ?_); intro ad5 cp5 w5 ho5 hg5 hq5)
              have hp5 := hp4.beside ha3 hg5
              have ha5 := apart_new hp4 ha3 hq5
              have hB5 : Below w.heap.size w w5 := ho4.grown hB4 hg5 (Nat.le_refl _) hB4.size
              go_wp2_with fail
              refine (penbytes_any _ _ _ [] true w5 hp5 (by simp)).mono ?_
              rintro e w8 ⟨u8, rfl, hu8, hb8⟩
              have hp8 := (hp5).below hb8
              have hB8 : Below w.heap.size w w8 := (hB5).trans (hb8.mono (hB5).size)
              go_wp2_with fail
              refine (same_eq _ _ [] w8 hu8.rd (Rd.nil _)).mono ?_
              rintro e w9 ⟨rfl, rfl⟩
              go_wp2_with fail
              go_roundw
              case rel => exact ⟨k + 1, _, none, 0, 0, true, [], by omega, by omega, by go_num, rfl, (by first | rfl | (simp; done) | (simp; omega)), hp8, Own.nil _ _, (fun _ h => by simp [Value.ownBlock] at h), (fun _ => rfl), by show 0 ≤ _; omega, hB8⟩
              case measure => simp [intOf]; omega
          · have hqi : (o.d : Int) % 4 = 1 := by omega
            by_cases fn : 0 ≤ o.n
            · cases bad
              · have fn1 : ¬ o.n < 0 := by omega
                go_wp2_with (at_builtin; go_must (refine appk rfl (.tmp 22) (.tmp 29) rfl (wr.heap.size + 1) (.slice (some ⟨wr.heap.size + 1, 0, none⟩) 0 0) _ [] o.t o.t (100) rfl rfl (by have := Own.empty (wr.alloc (.cells #[.int .u8 (o.d : Int), .int .i64 o.n, .slice A L C] 38)) (wr.heap.size + 1) (by simp); simpa using this) (hrd1.alloc _) (by rw [List.length_nil, Nat.zero_add, HLEN.out]) rfl (by rw [List.length_nil, HLEN.out]; omega) (by simp) ?_); intro ta tc wt hot hgt; have hbW : Below (wr.heap.size + 1) (wr.alloc (.cells #[.int .u8 (o.d : Int), .int .i64 o.n, .slice A L C] 38)) wt := ((Below.refl _ _).alloc (by simp) _).grown hgt (by simp) (fun q hq => by simp [Value.ownBlock] at hq; omega); have hA0t : wt.cell? ⟨wr.heap.size, 0, none⟩ = some (.int .u8 (o.d : Int)) := (hbW.cell (p := ⟨wr.heap.size, 0, none⟩) (by simp)).trans hA0; have hA1t : wt.cell? ⟨wr.heap.size, 1, none⟩ = some (.int .i64 o.n) := (hbW.cell (p := ⟨wr.heap.size, 1, none⟩) (by simp)).trans hA1; clear hgt)
                have hAt := hid hA1t
                have hbw2 : Below wr.heap.size wr wt := ((Below.refl wr.heap.size wr).alloc (Nat.le_refl _) (.cells #[.int .u8 (o.d : Int), .int .i64 o.n, .slice A L C] 38)).trans (hbW.mono (by omega))
                have hbt := hid (hbr.out.below hbw2)
                have hwt := hid (show wr.heap.size < wt.heap.size by have := hbW.size; simp at this; omega)
                have hBt := hid (hB.trans (hbw2.mono hB.size))
                clear hA0t hA1t hbw2 hbW hp hw hap hB hA0 hA1 hrd1
                refine (penint_at _ w.heap.size _ LL (Go.Proofs.Ytoglhleljknhcaa.u64 o.n) _ (u64_pos _ fn (by omega)) (by have := u64_pos o.n fn (by omega); omega) wt hbt.out.pen (by have := HLL.out; omega) hBt.out.size).mono ?_
                rintro e w3 ⟨rfl, v3, hp3, hk3, hf3⟩
                have hA3 : w3.cell? ⟨wr.heap.size, 1, none⟩ = some (.int .i64 o.n) := (hk3.cell (p := ⟨wr.heap.size, 1, none⟩) hwt.out (fun hs => by
                  rcases hs with h | h
                  · have := hbt.out.pen.lt; have := hbr.out.pen.lt; exact absurd h (by show wr.heap.size ≠ _; omega)
                  · have := (hbr.out.pen.2.1.lt _ h).2; exact absurd this (by show ¬ wr.heap.size < _; omega))).trans hAt.out
                obtain ⟨ho3, ha3⟩ := hbt.out.wrote hk3 hf3
                have hB3 : Below w.heap.size w w3 := hBt.out.trans (PenAt.low hbt.out.pen hk3 (fun _ h => h) hBt.out.size)
                go_wp2_with fail
                refine (refnum_any (Go.Proofs.Ytoglhleljknhcaa.u64 o.n) _ (by first | exact wrap_u64z _ | exact u64_pos _ fn (by omega)) (u64_lt _) w3).mono ?_
                rintro e w4 ⟨u4, rfl, hu4, hb4⟩
                have hp4 := hp3.below hb4
                have ho4 := ho3.below hb4
                have hB4 : Below w.heap.size w w4 := hB3.trans (hb4.mono hB3.size)
                obtain ⟨ua, un, uc, rfl⟩ : ∃ ua un uc, u4 = .slice ua un uc := by
                  obtain ⟨a, c, e, _⟩ := hu4.rd
                  exact ⟨a, _, c, e⟩
                have hun := hid hu4.caps.1
                have hnl := hid (show (Ink.num (Go.Proofs.Ytoglhleljknhcaa.u64 o.n)).length ≤ 110 by exact Nat.le_trans (Ink.num_length _).1 (by omega))
                clear hp3 ho3 hB3 hb4
                go_wp2_with (at_builtin; go_must (refine appf rfl (.tmp 81) (.tmp 85) rfl w.heap.size (.slice wa wn wc) _ LL (Ink.num (Go.Proofs.Ytoglhleljknhcaa.u64 o.n)) (LL ++ Ink.num (Go.Proofs.Ytoglhleljknhcaa.u64 o.n)) (wn + un) rfl rfl ho4 hu4.rd (by rw [hwn.out, hun.out]) rfl (by have := HLL.out; have := hnl.out; omega) hB4.size ?_); intro ad5 cp5 w5 ho5 hg5 hq5)
                have hp5 := hp4.beside ha3 hg5
                have ha5 := apart_new hp4 ha3 hq5
                have hB5 : Below w.heap.size w w5 := ho4.grown hB4 hg5 (Nat.le_refl _) hB4.size
                have hpn := hid hp5
                go_wp2_with fail
                refine (penbytes_any _ _ _ (LL ++ Ink.num (Go.Proofs.Ytoglhleljknhcaa.u64 o.n)) false w5 hp5 (by rw [List.length_append]; have := HLL.out; have := hnl.out; omega)).mono ?_
                rintro e w8 ⟨u8, rfl, hu8, hb8⟩
                have hp8 := (hp5).below hb8
                have ho8 := (ho5).below hb8
                have hB8 : Below w.heap.size w w8 := (hB5).trans (hb8.mono (hB5).size)
                go_wp2_with fail
                refine (same_eq _ _ (LL ++ Ink.num (Go.Proofs.Ytoglhleljknhcaa.u64 o.n)) w8 hu8.rd ho8.rd).mono ?_
                rintro e w9 ⟨rfl, rfl⟩
                go_wp2_with fail
                go_roundw
                case rel => exact ⟨k + 1, _, _, _, _, false, LL ++ Ink.num (Go.Proofs.Ytoglhleljknhcaa.u64 o.n), by omega, by omega, by go_num, rfl, (by first | rfl | (simp; done) | (simp; omega)), hp8, ho8, ha5, (fun h => by cases h), by rw [List.length_append]; have := HLL.out; have := hnl.out; omega, hB8⟩
                case measure => simp [intOf]; omega
              · obtain rfl := hbl rfl
                have fn1 : ¬ o.n < 0 := by omega
                go_wp2_with (at_builtin; go_must (refine appk rfl (.tmp 22) (.tmp 29) rfl (wr.heap.size + 1) (.slice (some ⟨wr.heap.size + 1, 0, none⟩) 0 0) _ [] o.t o.t (100) rfl rfl (by have := Own.empty (wr.alloc (.cells #[.int .u8 (o.d : Int), .int .i64 o.n, .slice A L C] 38)) (wr.heap.size + 1) (by simp); simpa using this) (hrd1.alloc _) (by rw [List.length_nil, Nat.zero_add, HLEN.out]) rfl (by rw [List.length_nil, HLEN.out]; omega) (by simp) ?_); intro ta tc wt hot hgt; have hbW : Below (wr.heap.size + 1) (wr.alloc (.cells #[.int .u8 (o.d : Int), .int .i64 o.n, .slice A L C] 38)) wt := ((Below.refl _ _).alloc (by simp) _).grown hgt (by simp) (fun q hq => by simp [Value.ownBlock] at hq; omega); have hA0t : wt.cell? ⟨wr.heap.size, 0, none⟩ = some (.int .u8 (o.d : Int)) := (hbW.cell (p := ⟨wr.heap.size, 0, none⟩) (by simp)).trans hA0; have hA1t : wt.cell? ⟨wr.heap.size, 1, none⟩ = some (.int .i64 o.n) := (hbW.cell (p := ⟨wr.heap.size, 1, none⟩) (by simp)).trans hA1; clear hgt)
                have hAt := hid hA1t
                have hbw2 : Below wr.heap.size wr wt := ((Below.refl wr.heap.size wr).alloc (Nat.le_refl _) (.cells #[.int .u8 (o.d : Int), .int .i64 o.n, .slice A L C] 38)).trans (hbW.mono (by omega))
                have hbt := hid (hbr.out.below hbw2)
                have hwt := hid (show wr.heap.size < wt.heap.size by have := hbW.size; simp at this; omega)
                have hBt := hid (hB.trans (hbw2.mono hB.size))
                clear hA0t hA1t hbw2 hbW hp hw hap hB hA0 hA1 hrd1
                refine (penint_bad' _ _ _ _ _ fn (by omega) wt hbt.out.pen).mono ?_
                rintro e w3 ⟨rfl, rfl⟩
                have hA3 := hAt.out
                have ho3 := hbt.out.want
                have ha3 := hbt.out.apart
                have hB3 := hBt.out
                have hp3 := hbt.out.pen
                go_wp2_with fail
                refine (refnum_any (Go.Proofs.Ytoglhleljknhcaa.u64 o.n) _ (by first | exact wrap_u64z _ | exact u64_pos _ fn (by omega)) (u64_lt _) wt).mono ?_
                rintro e w4 ⟨u4, rfl, hu4, hb4⟩
                have hp4 := hp3.below hb4
                have ho4 := ho3.below hb4
                have hB4 : Below w.heap.size w w4 := hB3.trans (hb4.mono hB3.size)
                obtain ⟨ua, un, uc, rfl⟩ : ∃ ua un uc, u4 = .slice ua un uc := by
                  obtain ⟨a, c, e, _⟩ := hu4.rd
                  exact ⟨a, _, c, e⟩
                have hun := hid hu4.caps.1
                have hnl := hid (show (Ink.num (Go.Proofs.Ytoglhleljknhcaa.u64 o.n)).length ≤ 110 by exact Nat.le_trans (Ink.num_length _).1 (by omega))
                clear hp3 ho3 hB3 hb4
                go_wp2_with (at_builtin; go_must (refine appf rfl (.tmp 81) (.tmp 85) rfl w.heap.size (.slice wa wn wc) _ ([] : List UInt8) (Ink.num (Go.Proofs.Ytoglhleljknhcaa.u64 o.n)) (([] : List UInt8) ++ Ink.num (Go.Proofs.Ytoglhleljknhcaa.u64 o.n)) (wn + un) rfl rfl ho4 hu4.rd (by rw [hwn.out, hun.out]) rfl (by have := HLL.out; have := hnl.out; omega) hB4.size ?_); intro ad5 cp5 w5 ho5 hg5 hq5)
                have hp5 := hp4.beside ha3 hg5
                have ha5 := apart_new hp4 ha3 hq5
                have hB5 : Below w.heap.size w w5 := ho4.grown hB4 hg5 (Nat.le_refl _) hB4.size
                go_wp2_with fail
                refine (penbytes_any _ _ _ [] true w5 hp5 (by simp)).mono ?_
                rintro e w8 ⟨u8, rfl, hu8, hb8⟩
                have hp8 := (hp5).below hb8
                have hB8 : Below w.heap.size w w8 := (hB5).trans (hb8.mono (hB5).size)
                go_wp2_with fail
                refine (same_eq _ _ [] w8 hu8.rd (Rd.nil _)).mono ?_
                rintro e w9 ⟨rfl, rfl⟩
                go_wp2_with fail
                go_roundw
                case rel => exact ⟨k + 1, _, none, 0, 0, true, [], by omega, by omega, by go_num, rfl, (by first | rfl | (simp; done) | (simp; omega)), hp8, Own.nil _ _, (fun _ h => by simp [Value.ownBlock] at h), (fun _ => rfl), by show 0 ≤ _; omega, hB8⟩
                case measure => simp [intOf]; omega
            · have fn : o.n < 0 := by omega
              cases bad
              · have fn1 : ¬ 0 ≤ o.n := by omega
                go_wp2_with (at_builtin; go_must (refine appk rfl (.tmp 22) (.tmp 29) rfl (wr.heap.size + 1) (.slice (some ⟨wr.heap.size + 1, 0, none⟩) 0 0) _ [] o.t o.t (100) rfl rfl (by have := Own.empty (wr.alloc (.cells #[.int .u8 (o.d : Int), .int .i64 o.n, .slice A L C] 38)) (wr.heap.size + 1) (by simp); simpa using this) (hrd1.alloc _) (by rw [List.length_nil, Nat.zero_add, HLEN.out]) rfl (by rw [List.length_nil, HLEN.out]; omega) (by simp) ?_); intro ta tc wt hot hgt; have hbW : Below (wr.heap.size + 1) (wr.alloc (.cells #[.int .u8 (o.d : Int), .int .i64 o.n, .slice A L C] 38)) wt := ((Below.refl _ _).alloc (by simp) _).grown hgt (by simp) (fun q hq => by simp [Value.ownBlock] at hq; omega); have hA0t : wt.cell? ⟨wr.heap.size, 0, none⟩ = some (.int .u8 (o.d : Int)) := (hbW.cell (p := ⟨wr.heap.size, 0, none⟩) (by simp)).trans hA0; have hA1t : wt.cell? ⟨wr.heap.size, 1, none⟩ = some (.int .i64 o.n) := (hbW.cell (p := ⟨wr.heap.size, 1, none⟩) (by simp)).trans hA1; clear hgt)
                have hAt := hid hA1t
                have hbw2 : Below wr.heap.size wr wt := ((Below.refl wr.heap.size wr).alloc (Nat.le_refl _) (.cells #[.int .u8 (o.d : Int), .int .i64 o.n, .slice A L C] 38)).trans (hbW.mono (by omega))
                have hbt := hid (hbr.out.below hbw2)
                have hwt := hid (show wr.heap.size < wt.heap.size by have := hbW.size; simp at this; omega)
                have hBt := hid (hB.trans (hbw2.mono hB.size))
                clear hA0t hA1t hbw2 hbW hp hw hap hB hA0 hA1 hrd1
                refine (penint_neg _ _ _ _ _ _ fn wt hbt.out.pen).mono ?_
                rintro e w3 ⟨rfl, hp3, hk3⟩
                have hA3 : w3.cell? ⟨wr.heap.size, 1, none⟩ = some (.int .i64 o.n) := (hk3.cell (p := ⟨wr.heap.size, 1, none⟩) hwt.out (fun hs => by
                  have := hbr.out.pen.lt
                  have hs' : wr.heap.size = _ := hs
                  omega)).trans hAt.out
                have hB3 : Below w.heap.size w w3 := hBt.out.trans (hk3.below hBt.out.size (fun i hi => by subst hi; exact hbt.out.pen.2.2.2))
                go_wp2_with fail
                refine (penbytes_any _ _ _ [] true w3 hp3 (by simp)).mono ?_
                rintro e w8 ⟨u8, rfl, hu8, hb8⟩
                have hp8 := (hp3).below hb8
                have hB8 : Below w.heap.size w w8 := (hB3).trans (hb8.mono (hB3).size)
                go_wp2_with fail
                refine (same_eq _ _ [] w8 hu8.rd (Rd.nil _)).mono ?_
                rintro e w9 ⟨rfl, rfl⟩
                go_wp2_with fail
                go_roundw
                case rel => exact ⟨k + 1, _, none, 0, 0, true, [], by omega, by omega, by go_num, rfl, (by first | rfl | (simp; done) | (simp; omega)), hp8, Own.nil _ _, (fun _ h => by simp [Value.ownBlock] at h), (fun _ => rfl), by show 0 ≤ _; omega, hB8⟩
                case measure => simp [intOf]; omega
              · obtain rfl := hbl rfl
                have fn1 : ¬ 0 ≤ o.n := by omega
                go_wp2_with (at_builtin; go_must (refine appk rfl (.tmp 22) (.tmp 29) rfl (wr.heap.size + 1) (.slice (some ⟨wr.heap.size + 1, 0, none⟩) 0 0) _ [] o.t o.t (100) rfl rfl (by have := Own.empty (wr.alloc (.cells #[.int .u8 (o.d : Int), .int .i64 o.n, .slice A L C] 38)) (wr.heap.size + 1) (by simp); simpa using this) (hrd1.alloc _) (by rw [List.length_nil, Nat.zero_add, HLEN.out]) rfl (by rw [List.length_nil, HLEN.out]; omega) (by simp) ?_); intro ta tc wt hot hgt; have hbW : Below (wr.heap.size + 1) (wr.alloc (.cells #[.int .u8 (o.d : Int), .int .i64 o.n, .slice A L C] 38)) wt := ((Below.refl _ _).alloc (by simp) _).grown hgt (by simp) (fun q hq => by simp [Value.ownBlock] at hq; omega); have hA0t : wt.cell? ⟨wr.heap.size, 0, none⟩ = some (.int .u8 (o.d : Int)) := (hbW.cell (p := ⟨wr.heap.size, 0, none⟩) (by simp)).trans hA0; have hA1t : wt.cell? ⟨wr.heap.size, 1, none⟩ = some (.int .i64 o.n) := (hbW.cell (p := ⟨wr.heap.size, 1, none⟩) (by simp)).trans hA1; clear hgt)
                have hAt := hid hA1t
                have hbw2 : Below wr.heap.size wr wt := ((Below.refl wr.heap.size wr).alloc (Nat.le_refl _) (.cells #[.int .u8 (o.d : Int), .int .i64 o.n, .slice A L C] 38)).trans (hbW.mono (by omega))
                have hbt := hid (hbr.out.below hbw2)
                have hwt := hid (show wr.heap.size < wt.heap.size by have := hbW.size; simp at this; omega)
                have hBt := hid (hB.trans (hbw2.mono hB.size))
                clear hA0t hA1t hbw2 hbW hp hw hap hB hA0 hA1 hrd1
                refine (penint_neg _ _ _ _ _ _ fn wt hbt.out.pen).mono ?_
                rintro e w3 ⟨rfl, hp3, hk3⟩
                have hA3 : w3.cell? ⟨wr.heap.size, 1, none⟩ = some (.int .i64 o.n) := (hk3.cell (p := ⟨wr.heap.size, 1, none⟩) hwt.out (fun hs => by
                  have := hbr.out.pen.lt
                  have hs' : wr.heap.size = _ := hs
                  omega)).trans hAt.out
                have hB3 : Below w.heap.size w w3 := hBt.out.trans (hk3.below hBt.out.size (fun i hi => by subst hi; exact hbt.out.pen.2.2.2))
                go_wp2_with fail
                refine (penbytes_any _ _ _ [] true w3 hp3 (by simp)).mono ?_
                rintro e w8 ⟨u8, rfl, hu8, hb8⟩
                have hp8 := (hp3).below hb8
                have hB8 : Below w.heap.size w w8 := (hB3).trans (hb8.mono (hB3).size)
                go_wp2_with fail
                refine (same_eq _ _ [] w8 hu8.rd (Rd.nil _)).mono ?_
                rintro e w9 ⟨rfl, rfl⟩
                go_wp2_with fail
                go_roundw
                case rel => exact ⟨k + 1, _, none, 0, 0, true, [], by omega, by omega, by go_num, rfl, (by first | rfl | (simp; done) | (simp; omega)), hp8, Own.nil _ _, (fun _ h => by simp [Value.ownBlock] at h), (fun _ => rfl), by show 0 ≤ _; omega, hB8⟩
                case measure => simp [intOf]; omega
          · have hqi : (o.d : Int) % 4 = 2 := by omega
            by_cases fn : 0 < o.n
            · cases bad
              · have fn2 : (o.n < 1) = False := eq_false (by omega)
                go_wp2_with (at_builtin; go_must (refine appk rfl (.tmp 22) (.tmp 29) rfl (wr.heap.size + 1) (.slice (some ⟨wr.heap.size + 1, 0, none⟩) 0 0) _ [] o.t o.t (100) rfl rfl (by have := Own.empty (wr.alloc (.cells #[.int .u8 (o.d : Int), .int .i64 o.n, .slice A L C] 38)) (wr.heap.size + 1) (by simp); simpa using this) (hrd1.alloc _) (by rw [List.length_nil, Nat.zero_add, HLEN.out]) rfl (by rw [List.length_nil, HLEN.out]; omega) (by simp) ?_); intro ta tc wt hot hgt; have hbW : Below (wr.heap.size + 1) (wr.alloc (.cells #[.int .u8 (o.d : Int), .int .i64 o.n, .slice A L C] 38)) wt := ((Below.refl _ _).alloc (by simp) _).grown hgt (by simp) (fun q hq => by simp [Value.ownBlock] at hq; omega); have hA0t : wt.cell? ⟨wr.heap.size, 0, none⟩ = some (.int .u8 (o.d : Int)) := (hbW.cell (p := ⟨wr.heap.size, 0, none⟩) (by simp)).trans hA0; have hA1t : wt.cell? ⟨wr.heap.size, 1, none⟩ = some (.int .i64 o.n) := (hbW.cell (p := ⟨wr.heap.size, 1, none⟩) (by simp)).trans hA1; clear hgt)
                have hAt := hid hA1t
                have hbw2 : Below wr.heap.size wr wt := ((Below.refl wr.heap.size wr).alloc (Nat.le_refl _) (.cells #[.int .u8 (o.d : Int), .int .i64 o.n, .slice A L C] 38)).trans (hbW.mono (by omega))
                have hbt := hid (hbr.out.below hbw2)
                have hwt := hid (show wr.heap.size < wt.heap.size by have := hbW.size; simp at this; omega)
                have hBt := hid (hB.trans (hbw2.mono hB.size))
                clear hA0t hA1t hbw2 hbW hp hw hap hB hA0 hA1 hrd1
                refine (penbool_good _ w.heap.size _ LL true wt hbt.out.pen (by have := HLL.out; omega) hBt.out.size).mono ?_
                rintro e w3 ⟨rfl, v3, hp3, hk3, hf3⟩
                rw [if_pos rfl] at hp3
                have hA3 : w3.cell? ⟨wr.heap.size, 1, none⟩ = some (.int .i64 o.n) := (hk3.cell (p := ⟨wr.heap.size, 1, none⟩) hwt.out (fun hs => by
                  rcases hs with h | h
                  · have := hbt.out.pen.lt; have := hbr.out.pen.lt; exact absurd h (by show wr.heap.size ≠ _; omega)
                  · have := (hbr.out.pen.2.1.lt _ h).2; exact absurd this (by show ¬ wr.heap.size < _; omega))).trans hAt.out
                obtain ⟨ho3, ha3⟩ := hbt.out.wrote hk3 hf3
                have hB3 : Below w.heap.size w w3 := hBt.out.trans (PenAt.low hbt.out.pen hk3 (fun _ h => h) hBt.out.size)
                go_wp2_with fail
                refine (refnum_any 1 _ (by first | rfl | omega | simp) (by omega) w3).mono ?_
                rintro e w4 ⟨u4, rfl, hu4, hb4⟩
                have hp4 := hp3.below hb4
                have ho4 := ho3.below hb4
                have hB4 : Below w.heap.size w w4 := hB3.trans (hb4.mono hB3.size)
                obtain ⟨ua, un, uc, rfl⟩ : ∃ ua un uc, u4 = .slice ua un uc := by
                  obtain ⟨a, c, e, _⟩ := hu4.rd
                  exact ⟨a, _, c, e⟩
                have hun := hid hu4.caps.1
                have hnl := hid (show (Ink.num 1).length ≤ 110 by exact Nat.le_trans (Ink.num_length _).1 (by omega))
                clear hp3 ho3 hB3 hb4
                go_wp2_with (at_builtin; go_must (refine appf rfl (.tmp 94) (.tmp 100) rfl w.heap.size (.slice wa wn wc) _ LL (Ink.num 1) (LL ++ Ink.num 1) (wn + un) rfl rfl ho4 hu4.rd (by rw [hwn.out, hun.out]) rfl (by have := HLL.out; have := hnl.out; omega) hB4.size ?_); intro ad5 cp5 w5 ho5 hg5 hq5)
                have hp5 := hp4.beside ha3 hg5
                have ha5 := apart_new hp4 ha3 hq5
                have hB5 : Below w.heap.size w w5 := ho4.grown hB4 hg5 (Nat.le_refl _) hB4.size
                have hpn := hid hp5
                go_wp2_with fail
                refine (penbytes_any _ _ _ (LL ++ Ink.num 1) false w5 hp5 (by rw [List.length_append]; have := HLL.out; have := hnl.out; omega)).mono ?_
                rintro e w8 ⟨u8, rfl, hu8, hb8⟩
                have hp8 := (hp5).below hb8
                have ho8 := (ho5).below hb8
                have hB8 : Below w.heap.size w w8 := (hB5).trans (hb8.mono (hB5).size)
                go_wp2_with fail
                refine (same_eq _ _ (LL ++ Ink.num 1) w8 hu8.rd ho8.rd).mono ?_
                rintro e w9 ⟨rfl, rfl⟩
                go_wp2_with fail
                go_roundw
                case rel => exact ⟨k + 1, _, _, _, _, false, LL ++ Ink.num 1, by omega, by omega, by go_num, rfl, (by first | rfl | (simp; done) | (simp; omega)), hp8, ho8, ha5, (fun h => by cases h), by rw [List.length_append]; have := HLL.out; have := hnl.out; omega, hB8⟩
                case measure => simp [intOf]; omega
              · obtain rfl := hbl rfl
                have fn2 : (o.n < 1) = False := eq_false (by omega)
                go_wp2_with (at_builtin; go_must (refine appk rfl (.tmp 22) (.tmp 29) rfl (wr.heap.size + 1) (.slice (some ⟨wr.heap.size + 1, 0, none⟩) 0 0) _ [] o.t o.t (100) rfl rfl (by have := Own.empty (wr.alloc (.cells #[.int .u8 (o.d : Int), .int .i64 o.n, .slice A L C] 38)) (wr.heap.size + 1) (by simp); simpa using this) (hrd1.alloc _) (by rw [List.length_nil, Nat.zero_add, HLEN.out]) rfl (by rw [List.length_nil, HLEN.out]; omega) (by simp) ?_); intro ta tc wt hot hgt; have hbW : Below (wr.heap.size + 1) (wr.alloc (.cells #[.int .u8 (o.d : Int), .int .i64 o.n, .slice A L C] 38)) wt := ((Below.refl _ _).alloc (by simp) _).grown hgt (by simp) (fun q hq => by simp [Value.ownBlock] at hq; omega); have hA0t : wt.cell? ⟨wr.heap.size, 0, none⟩ = some (.int .u8 (o.d : Int)) := (hbW.cell (p := ⟨wr.heap.size, 0, none⟩) (by simp)).trans hA0; have hA1t : wt.cell? ⟨wr.heap.size, 1, none⟩ = some (.int .i64 o.n) := (hbW.cell (p := ⟨wr.heap.size, 1, none⟩) (by simp)).trans hA1; clear hgt)
                have hAt := hid hA1t
                have hbw2 : Below wr.heap.size wr wt := ((Below.refl wr.heap.size wr).alloc (Nat.le_refl _) (.cells #[.int .u8 (o.d : Int), .int .i64 o.n, .slice A L C] 38)).trans (hbW.mono (by omega))
                have hbt := hid (hbr.out.below hbw2)
                have hwt := hid (show wr.heap.size < wt.heap.size by have := hbW.size; simp at this; omega)
                have hBt := hid (hB.trans (hbw2.mono hB.size))
                clear hA0t hA1t hbw2 hbW hp hw hap hB hA0 hA1 hrd1
                refine (penbool_bad _ _ _ _ _ wt hbt.out.pen).mono ?_
                rintro e w3 ⟨rfl, rfl⟩
                have hA3 := hAt.out
                have ho3 := hbt.out.want
                have ha3 := hbt.out.apart
                have hB3 := hBt.out
                have hp3 := hbt.out.pen
                go_wp2_with fail
                refine (refnum_any 1 _ (by first | rfl | omega | simp) (by omega) wt).mono ?_
                rintro e w4 ⟨u4, rfl, hu4, hb4⟩
                have hp4 := hp3.below hb4
                have ho4 := ho3.below hb4
                have hB4 : Below w.heap.size w w4 := hB3.trans (hb4.mono hB3.size)
                obtain ⟨ua, un, uc, rfl⟩ : ∃ ua un uc, u4 = .slice ua un uc := by
                  obtain ⟨a, c, e, _⟩ := hu4.rd
                  exact ⟨a, _, c, e⟩
                have hun := hid hu4.caps.1
                have hnl := hid (show (Ink.num 1).length ≤ 110 by exact Nat.le_trans (Ink.num_length _).1 (by omega))
                clear hp3 ho3 hB3 hb4
                go_wp2_with (at_builtin; go_must (refine appf rfl (.tmp 94) (.tmp 100) rfl w.heap.size (.slice wa wn wc) _ ([] : List UInt8) (Ink.num 1) (([] : List UInt8) ++ Ink.num 1) (wn + un) rfl rfl ho4 hu4.rd (by rw [hwn.out, hun.out]) rfl (by have := HLL.out; have := hnl.out; omega) hB4.size ?_); intro ad5 cp5 w5 ho5 hg5 hq5)
                have hp5 := hp4.beside ha3 hg5
                have ha5 := apart_new hp4 ha3 hq5
                have hB5 : Below w.heap.size w w5 := ho4.grown hB4 hg5 (Nat.le_refl _) hB4.size
                go_wp2_with fail
                refine (penbytes_any _ _ _ [] true w5 hp5 (by simp)).mono ?_
                rintro e w8 ⟨u8, rfl, hu8, hb8⟩
                have hp8 := (hp5).below hb8
                have hB8 : Below w.heap.size w w8 := (hB5).trans (hb8.mono (hB5).size)
                go_wp2_with fail
                refine (same_eq _ _ [] w8 hu8.rd (Rd.nil _)).mono ?_
                rintro e w9 ⟨rfl, rfl⟩
                go_wp2_with fail
                go_roundw
                case rel => exact ⟨k + 1, _, none, 0, 0, true, [], by omega, by omega, by go_num, rfl, (by first | rfl | (simp; done) | (simp; omega)), hp8, Own.nil _ _, (fun _ h => by simp [Value.ownBlock] at h), (fun _ => rfl), by show 0 ≤ _; omega, hB8⟩
                case measure => simp [intOf]; omega
            · cases bad
              · have fn2 : (o.n < 1) = True := eq_true (by omega)
                have fn3 : (0 < o.n) = False := eq_false (by omega)
                go_wp2_with (at_builtin; go_must (refine appk rfl (.tmp 22) (.tmp 29) rfl (wr.heap.size + 1) (.slice (some ⟨wr.heap.size + 1, 0, none⟩) 0 0) _ [] o.t o.t (100) rfl rfl (by have := Own.empty (wr.alloc (.cells #[.int .u8 (o.d : Int), .int .i64 o.n, .slice A L C] 38)) (wr.heap.size + 1) (by simp); simpa using this) (hrd1.alloc _) (by rw [List.length_nil, Nat.zero_add, HLEN.out]) rfl (by rw [List.length_nil, HLEN.out]; omega) (by simp) ?_); intro ta tc wt hot hgt; have hbW : Below (wr.heap.size + 1) (wr.alloc (.cells #[.int .u8 (o.d : Int), .int .i64 o.n, .slice A L C] 38)) wt := ((Below.refl _ _).alloc (by simp) _).grown hgt (by simp) (fun q hq => by simp [Value.ownBlock] at hq; omega); have hA0t : wt.cell? ⟨wr.heap.size, 0, none⟩ = some (.int .u8 (o.d : Int)) := (hbW.cell (p := ⟨wr.heap.size, 0, none⟩) (by simp)).trans hA0; have hA1t : wt.cell? ⟨wr.heap.size, 1, none⟩ = some (.int .i64 o.n) := (hbW.cell (p := ⟨wr.heap.size, 1, none⟩) (by simp)).trans hA1; clear hgt)
                have hAt := hid hA1t
                have hbw2 : Below wr.heap.size wr wt := ((Below.refl wr.heap.size wr).alloc (Nat.le_refl _) (.cells #[.int .u8 (o.d : Int), .int .i64 o.n, .slice A L C] 38)).trans (hbW.mono (by omega))
                have hbt := hid (hbr.out.below hbw2)
                have hwt := hid (show wr.heap.size < wt.heap.size by have := hbW.size; simp at this; omega)
                have hBt := hid (hB.trans (hbw2.mono hB.size))
                clear hA0t hA1t hbw2 hbW hp hw hap hB hA0 hA1 hrd1
                refine (penbool_good _ w.heap.size _ LL false wt hbt.out.pen (by have := HLL.out; omega) hBt.out.size).mono ?_
                rintro e w3 ⟨rfl, v3, hp3, hk3, hf3⟩
                rw [if_neg (by decide)] at hp3
                have hA3 : w3.cell? ⟨wr.heap.size, 1, none⟩ = some (.int .i64 o.n) := (hk3.cell (p := ⟨wr.heap.size, 1, none⟩) hwt.out (fun hs => by
                  rcases hs with h | h
                  · have := hbt.out.pen.lt; have := hbr.out.pen.lt; exact absurd h (by show wr.heap.size ≠ _; omega)
                  · have := (hbr.out.pen.2.1.lt _ h).2; exact absurd this (by show ¬ wr.heap.size < _; omega))).trans hAt.out
                obtain ⟨ho3, ha3⟩ := hbt.out.wrote hk3 hf3
                have hB3 : Below w.heap.size w w3 := hBt.out.trans (PenAt.low hbt.out.pen hk3 (fun _ h => h) hBt.out.size)
                go_wp2_with fail
                refine (refnum_any 0 _ (by first | rfl | omega | simp) (by omega) w3).mono ?_
                rintro e w4 ⟨u4, rfl, hu4, hb4⟩
                have hp4 := hp3.below hb4
                have ho4 := ho3.below hb4
                have hB4 : Below w.heap.size w w4 := hB3.trans (hb4.mono hB3.size)
                obtain ⟨ua, un, uc, rfl⟩ : ∃ ua un uc, u4 = .slice ua un uc := by
                  obtain ⟨a, c, e, _⟩ := hu4.rd
                  exact ⟨a, _, c, e⟩
                have hun := hid hu4.caps.1
                have hnl := hid (show (Ink.num 0).length ≤ 110 by exact Nat.le_trans (Ink.num_length _).1 (by omega))
                clear hp3 ho3 hB3 hb4
                go_wp2_with (at_builtin; go_must (refine appf rfl (.tmp 94) (.tmp 100) rfl w.heap.size (.slice wa wn wc) _ LL (Ink.num 0) (LL ++ Ink.num 0) (wn + un) rfl rfl ho4 hu4.rd (by rw [hwn.out, hun.out]) rfl (by have := HLL.out; have := hnl.out; omega) hB4.size ?_); intro ad5 cp5 w5 ho5 hg5 hq5)
                have hp5 := hp4.beside ha3 hg5
                have ha5 := apart_new hp4 ha3 hq5
                have hB5 : Below w.heap.size w w5 := ho4.grown hB4 hg5 (Nat.le_refl _) hB4.size
                have hpn := hid hp5
                go_wp2_with fail
                refine (penbytes_any _ _ _ (LL ++ Ink.num 0) false w5 hp5 (by rw [List.length_append]; have := HLL.out; have := hnl.out; omega)).mono ?_
                rintro e w8 ⟨u8, rfl, hu8, hb8⟩
                have hp8 := (hp5).below hb8
                have ho8 := (ho5).below hb8
                have hB8 : Below w.heap.size w w8 := (hB5).trans (hb8.mono (hB5).size)
                go_wp2_with fail
                refine (same_eq _ _ (LL ++ Ink.num 0) w8 hu8.rd ho8.rd).mono ?_
                rintro e w9 ⟨rfl, rfl⟩
                go_wp2_with fail
                go_roundw
                case rel => exact ⟨k + 1, _, _, _, _, false, LL ++ Ink.num 0, by omega, by omega, by go_num, rfl, (by first | rfl | (simp; done) | (simp; omega)), hp8, ho8, ha5, (fun h => by cases h), by rw [List.length_append]; have := HLL.out; have := hnl.out; omega, hB8⟩
                case measure => simp [intOf]; omega
              · obtain rfl := hbl rfl
                have fn2 : (o.n < 1) = True := eq_true (by omega)
                have fn3 : (0 < o.n) = False := eq_false (by omega)
                go_wp2_with (at_builtin; go_must (refine appk rfl (.tmp 22) (.tmp 29) rfl (wr.heap.size + 1) (.slice (some ⟨wr.heap.size + 1, 0, none⟩) 0 0) _ [] o.t o.t (100) rfl rfl (by have := Own.empty (wr.alloc (.cells #[.int .u8 (o.d : Int), .int .i64 o.n, .slice A L C] 38)) (wr.heap.size + 1) (by simp); simpa using this) (hrd1.alloc _) (by rw [List.length_nil, Nat.zero_add, HLEN.out]) rfl (by rw [List.length_nil, HLEN.out]; omega) (by simp) ?_); intro ta tc wt hot hgt; have hbW : Below (wr.heap.size + 1) (wr.alloc (.cells #[.int .u8 (o.d : Int), .int .i64 o.n, .slice A L C] 38)) wt := ((Below.refl _ _).alloc (by simp) _).grown hgt (by simp) (fun q hq => by simp [Value.ownBlock] at hq; omega); have hA0t : wt.cell? ⟨wr.heap.size, 0, none⟩ = some (.int .u8 (o.d : Int)) := (hbW.cell (p := ⟨wr.heap.size, 0, none⟩) (by simp)).trans hA0; have hA1t : wt.cell? ⟨wr.heap.size, 1, none⟩ = some (.int .i64 o.n) := (hbW.cell (p := ⟨wr.heap.size, 1, none⟩) (by simp)).trans hA1; clear hgt)
                have hAt := hid hA1t
                have hbw2 : Below wr.heap.size wr wt := ((Below.refl wr.heap.size wr).alloc (Nat.le_refl _) (.cells #[.int .u8 (o.d : Int), .int .i64 o.n, .slice A L C] 38)).trans (hbW.mono (by omega))
                have hbt := hid (hbr.out.below hbw2)
                have hwt := hid (show wr.heap.size < wt.heap.size by have := hbW.size; simp at this; omega)
                have hBt := hid (hB.trans (hbw2.mono hB.size))
                clear hA0t hA1t hbw2 hbW hp hw hap hB hA0 hA1 hrd1
                refine (penbool_bad _ _ _ _ _ wt hbt.out.pen).mono ?_
                rintro e w3 ⟨rfl, rfl⟩
                have hA3 := hAt.out
                have ho3 := hbt.out.want
                have ha3 := hbt.out.apart
                have hB3 := hBt.out
                have hp3 := hbt.out.pen
                go_wp2_with fail
                refine (refnum_any 0 _ (by first | rfl | omega | simp) (by omega) wt).mono ?_
                rintro e w4 ⟨u4, rfl, hu4, hb4⟩
                have hp4 := hp3.below hb4
                have ho4 := ho3.below hb4
                have hB4 : Below w.heap.size w w4 := hB3.trans (hb4.mono hB3.size)
                obtain ⟨ua, un, uc, rfl⟩ : ∃ ua un uc, u4 = .slice ua un uc := by
                  obtain ⟨a, c, e, _⟩ := hu4.rd
                  exact ⟨a, _, c, e⟩
                have hun := hid hu4.caps.1
                have hnl := hid (show (Ink.num 0).length ≤ 110 by exact Nat.le_trans (Ink.num_length _).1 (by omega))
                clear hp3 ho3 hB3 hb4
                go_wp2_with (at_builtin; go_must (refine appf rfl (.tmp 94) (.tmp 100) rfl w.heap.size (.slice wa wn wc) _ ([] : List UInt8) (Ink.num 0) (([] : List UInt8) ++ Ink.num 0) (wn + un) rfl rfl ho4 hu4.rd (by rw [hwn.out, hun.out]) rfl (by have := HLL.out; have := hnl.out; omega) hB4.size ?_); intro ad5 cp5 w5 ho5 hg5 hq5)
                have hp5 := hp4.beside ha3 hg5
                have ha5 := apart_new hp4 ha3 hq5
                have hB5 : Below w.heap.size w w5 := ho4.grown hB4 hg5 (Nat.le_refl _) hB4.size
                go_wp2_with fail
                refine (penbytes_any _ _ _ [] true w5 hp5 (by simp)).mono ?_
                rintro e w8 ⟨u8, rfl, hu8, hb8⟩
                have hp8 := (hp5).below hb8
                have hB8 : Below w.heap.size w w8 := (hB5).trans (hb8.mono (hB5).size)
                go_wp2_with fail
                refine (same_eq _ _ [] w8 hu8.rd (Rd.nil _)).mono ?_
                rintro e w9 ⟨rfl, rfl⟩
                go_wp2_with fail
                go_roundw
                case rel => exact ⟨k + 1, _, none, 0, 0, true, [], by omega, by omega, by go_num, rfl, (by first | rfl | (simp; done) | (simp; omega)), hp8, Own.nil _ _, (fun _ h => by simp [Value.ownBlock] at h), (fun _ => rfl), by show 0 ≤ _; omega, hB8⟩
                case measure => simp [intOf]; omega
          · have hqi : (o.d : Int) % 4 = 3 := by omega
            cases bad
            · go_wp2_with (at_builtin; go_must (refine appk rfl (.tmp 22) (.tmp 29) rfl (wr.heap.size + 1) (.slice (some ⟨wr.heap.size + 1, 0, none⟩) 0 0) _ [] o.t o.t (100) rfl rfl (by have := Own.empty (wr.alloc (.cells #[.int .u8 (o.d : Int), .int .i64 o.n, .slice A L C] 38)) (wr.heap.size + 1) (by simp); simpa using this) (hrd1.alloc _) (by rw [List.length_nil, Nat.zero_add, HLEN.out]) rfl (by rw [List.length_nil, HLEN.out]; omega) (by simp) ?_); intro ta tc wt hot hgt; have hbW : Below (wr.heap.size + 1) (wr.alloc (.cells #[.int .u8 (o.d : Int), .int .i64 o.n, .slice A L C] 38)) wt := ((Below.refl _ _).alloc (by simp) _).grown hgt (by simp) (fun q hq => by simp [Value.ownBlock] at hq; omega); have hA0t : wt.cell? ⟨wr.heap.size, 0, none⟩ = some (.int .u8 (o.d : Int)) := (hbW.cell (p := ⟨wr.heap.size, 0, none⟩) (by simp)).trans hA0; have hA1t : wt.cell? ⟨wr.heap.size, 1, none⟩ = some (.int .i64 o.n) := (hbW.cell (p := ⟨wr.heap.size, 1, none⟩) (by simp)).trans hA1; clear hgt)
              have hAt := hid hA1t
              have hbw2 : Below wr.heap.size wr wt := ((Below.refl wr.heap.size wr).alloc (Nat.le_refl _) (.cells #[.int .u8 (o.d : Int), .int .i64 o.n, .slice A L C] 38)).trans (hbW.mono (by omega))
              have hbt := hid (hbr.out.below hbw2)
              have hwt := hid (show wr.heap.size < wt.heap.size by have := hbW.size; simp at this; omega)
              have hBt := hid (hB.trans (hbw2.mono hB.size))
              clear hA0t hA1t hbw2 hbW hp hw hap hB hA0 hA1 hrd1
              have hsep : ∀ k, (Value.slice ta 100 tc).ownBlock = some k → ¬ penS w1.heap.size v k := fun k hk hs => by
                have h1 := (hot.lt k hk).1
                rcases hs with h | h
                · have := hbr.out.pen.lt; omega
                · have := (hbr.out.pen.2.1.lt k h).2; omega
              refine (pentext_at _ w.heap.size _ LL _ o.t wt hbt.out.pen hot.rd (.inr hsep) (by have := HLL.out; omega) (by rw [HLEN.out]; omega) hBt.out.size).mono ?_
              rintro e w3 ⟨rfl, v3, hp3, hk3, hf3⟩
              have hot3 := hot.keeps hk3 hsep
              have hvv := hid (show ∀ k, v3.ownBlock = some k → k < wr.heap.size + 1 ∨ wt.heap.size ≤ k from fun k hk => by
                rcases hf3 k hk with h | h
                · left; have := (hbr.out.pen.2.1.lt k h).2; omega
                · exact .inr h)
              have hszt := hid hk3.size
              have hA3 : w3.cell? ⟨wr.heap.size, 1, none⟩ = some (.int .i64 o.n) := (hk3.cell (p := ⟨wr.heap.size, 1, none⟩) hwt.out (fun hs => by
                rcases hs with h | h
                · have := hbt.out.pen.lt; have := hbr.out.pen.lt; exact absurd h (by show wr.heap.size ≠ _; omega)
                · have := (hbr.out.pen.2.1.lt _ h).2; exact absurd this (by show ¬ wr.heap.size < _; omega))).trans hAt.out
              obtain ⟨ho3, ha3⟩ := hbt.out.wrote hk3 hf3
              have hB3 : Below w.heap.size w w3 := hBt.out.trans (PenAt.low hbt.out.pen hk3 (fun _ h => h) hBt.out.size)
              go_wp2_with fail
              refine (reftext_any _ o.t w3 hot3.rd (by rw [HLEN.out]; omega)).mono ?_
              rintro e w4 ⟨u4, rfl, hu4, hb4⟩
              have hp4 := hp3.below hb4
              have ho4 := ho3.below hb4
              have hB4 : Below w.heap.size w w4 := hB3.trans (hb4.mono hB3.size)
              obtain ⟨ua, un, uc, rfl⟩ : ∃ ua un uc, u4 = .slice ua un uc := by
                obtain ⟨a, c, e, _⟩ := hu4.rd
                exact ⟨a, _, c, e⟩
              have hun := hid hu4.caps.1
              have hnl := hid (show (Ink.text o.t).length ≤ 110 by unfold Ink.text; rw [List.length_append, HLEN.out]; have := (Ink.num_length o.t.length).1; rw [HLEN.out] at this; omega)
              have hot4 := hot3.below hb4
              have hszb := hb4.size
              clear hp3 ho3 hB3 hb4
              go_wp2_with (at_builtin; go_must (refine appf rfl (.tmp 37) (.tmp 39) rfl w.heap.size (.slice wa wn wc) _ LL (Ink.text o.t) (LL ++ Ink.text o.t) (wn + un) rfl rfl ho4 hu4.rd (by rw [hwn.out, hun.out]) rfl (by have := HLL.out; have := hnl.out; omega) hB4.size ?_); intro ad5 cp5 w5 ho5 hg5 hq5)
              have hp5 := hp4.beside ha3 hg5
              have ha5 := apart_new hp4 ha3 hq5
              have hB5 : Below w.heap.size w w5 := ho4.grown hB4 hg5 (Nat.le_refl _) hB4.size
              have hot5 := hot4.keeps (Keeps.of_grown hg5) (fun q hq e => by
                have h1 := (hot4.lt q hq).1
                have h2 := (hbr.out.want.lt q e).2
                omega)
              have hqq := hid (show ∀ q, (Value.slice ad5 (wn + un) cp5).ownBlock = some q → q < wr.heap.size + 1 ∨ wt.heap.size ≤ q from fun q hq => by
                rcases hq5 q hq with h | h
                · left; have := (hbr.out.want.lt q h).2; omega
                · right; have := hszt.out; have := hszb; omega)
              have hob := hid (hbr.out.pen.lt)
              have HOT := hid hot
              obtain ⟨B0, hB0⟩ : ∃ B0, B0 = wr.heap.size := ⟨_, rfl⟩
              rw [← hB0] at hot5 hvv hqq hob HOT
              clear hot hg5 hq5 hp4 ho4 hot4 hu4
              go_wp2_with fail
              go_loopw [43] (fun i wi => ∃ (j : Nat) (l' : List UInt8), j ≤ 100 ∧ i = .int .i64 j ∧ Own wi (B0 + 1) (.slice ta (100) tc) l' ∧ l'.length = 100 ∧ PenAt wi w.heap.size w1.heap.size v3 (LL ++ Ink.text o.t) false ∧ Own wi w.heap.size (.slice ad5 (wn + un) cp5) (LL ++ Ink.text o.t) ∧ Below w.heap.size w wi) (fun i _ => 100 - (intOf i).toNat)
              case atStart => exact ⟨0, o.t, by omega, rfl, hot5, HLEN.out, hp5, ho5, hB5⟩
              case round =>
                clear hot5 hp5 ho5 hB5
                obtain ⟨j, l', hj, rfl, hti, hli, hpi, hoi, hBi⟩ := hrel
                by_cases hjl : j < 100
                · rcases hti.shape with ⟨e, _⟩ | ⟨g, cp, e, hg1, hg2, _, _⟩
                  · simp only [Value.slice.injEq] at e
                    omega
                  · simp only [Value.slice.injEq] at e
                    obtain ⟨rfl, e2, e3⟩ := e
                    clear e2 e3
                    have hgt := (HOT.out.lt g rfl).2
                    obtain ⟨x, hx⟩ : ∃ x, x = l'.getD j 0 := ⟨_, rfl⟩
                    have hcell := hti.cell j (by omega)
                    rw [← hx, bv_eq] at hcell
                    have hxx := xor2 x
                    have hfz := hti.frozen j
                    have hst := hid (hti.stored j (turn1 x) _ rfl)
                    have hpi2 := hid (show ∀ V, PenAt (wr.setCell ⟨g, j, none⟩ V) w.heap.size w1.heap.size v3 (LL ++ Ink.text o.t) false from fun V => hpi.keeps (set_keeps wr g j V) (fun k hk e => by
                      rcases hk with h | h
                      · have := hob.out; omega
                      · rcases hvv.out k h with h' | h' <;> omega))
                    have hoi2 := hid (show ∀ V, Own (wr.setCell ⟨g, j, none⟩ V) w.heap.size (.slice ad5 (wn + un) cp5) (LL ++ Ink.text o.t) from fun V => hoi.keeps (set_keeps wr g j V) (fun k hk e => by
                      rcases hqq.out k hk with h' | h' <;> omega))
                    have hBi2 := hid (show ∀ V, Below w.heap.size w (wr.setCell ⟨g, j, none⟩ V) from fun V => hBi.trans ((set_keeps wr g j V).below hBi.size (fun i hi => by subst hi; have := hob.out; have := hbr.out.pen.2.2.2; omega)))
                    have HLI := hid hli
                    clear hti hpi hoi hBi hx hB0 hli
                    go_wp2_with fail
                    go_roundw
                    case rel => exact ⟨j + 1, _, by omega, by go_num, hst.out, by rw [List.length_set]; exact HLI.out, hpi2.out _, hoi2.out _, hBi2.out _⟩
                    case measure => simp [intOf]; omega
                · obtain rfl : 100 = j := by omega
                  rw [show ((100 : Nat) : Int) = 100 from rfl]
                  have hpn := hid hpi
                  go_wp2_with fail
                  refine (penbytes_any _ _ _ (LL ++ Ink.text o.t) false wr hpi (by rw [List.length_append]; have := HLL.out; have := hnl.out; omega)).mono ?_
                  rintro e w8 ⟨u8, rfl, hu8, hb8⟩
                  have hp8 := (hpi).below hb8
                  have ho8 := (hoi).below hb8
                  have hB8 : Below w.heap.size w w8 := (hBi).trans (hb8.mono (hBi).size)
                  go_wp2_with fail
                  refine (same_eq _ _ (LL ++ Ink.text o.t) w8 hu8.rd ho8.rd).mono ?_
                  rintro e w9 ⟨rfl, rfl⟩
                  go_wp2_with fail
                  go_roundw
                  case rel => exact ⟨k + 1, _, _, _, _, false, LL ++ Ink.text o.t, by omega, by omega, by go_num, rfl, (by first | rfl | (simp; done) | (simp; omega)), hp8, ho8, ha5, (fun h => by cases h), by rw [List.length_append]; have := HLL.out; have := hnl.out; omega, hB8⟩
                  case measure => simp [intOf]; omega
            · obtain rfl := hbl rfl
              go_wp2_with (at_builtin; go_must (refine appk rfl (.tmp 22) (.tmp 29) rfl (wr.heap.size + 1) (.slice (some ⟨wr.heap.size + 1, 0, none⟩) 0 0) _ [] o.t o.t (100) rfl rfl (by have := Own.empty (wr.alloc (.cells #[.int .u8 (o.d : Int), .int .i64 o.n, .slice A L C] 38)) (wr.heap.size + 1) (by simp); simpa using this) (hrd1.alloc _) (by rw [List.length_nil, Nat.zero_add, HLEN.out]) rfl (by rw [List.length_nil, HLEN.out]; omega) (by simp) ?_); intro ta tc wt hot hgt; have hbW : Below (wr.heap.size + 1) (wr.alloc (.cells #[.int .u8 (o.d : Int), .int .i64 o.n, .slice A L C] 38)) wt := ((Below.refl _ _).alloc (by simp) _).grown hgt (by simp) (fun q hq => by simp [Value.ownBlock] at hq; omega); have hA0t : wt.cell? ⟨wr.heap.size, 0, none⟩ = some (.int .u8 (o.d : Int)) := (hbW.cell (p := ⟨wr.heap.size, 0, none⟩) (by simp)).trans hA0; have hA1t : wt.cell? ⟨wr.heap.size, 1, none⟩ = some (.int .i64 o.n) := (hbW.cell (p := ⟨wr.heap.size, 1, none⟩) (by simp)).trans hA1; clear hgt)
              have hAt := hid hA1t
              have hbw2 : Below wr.heap.size wr wt := ((Below.refl wr.heap.size wr).alloc (Nat.le_refl _) (.cells #[.int .u8 (o.d : Int), .int .i64 o.n, .slice A L C] 38)).trans (hbW.mono (by omega))
              have hbt := hid (hbr.out.below hbw2)
              have hwt := hid (show wr.heap.size < wt.heap.size by have := hbW.size; simp at this; omega)
              have hBt := hid (hB.trans (hbw2.mono hB.size))
              clear hA0t hA1t hbw2 hbW hp hw hap hB hA0 hA1 hrd1
              have hsep : ∀ k, (Value.slice ta 100 tc).ownBlock = some k → ¬ penS w1.heap.size v k := fun k hk hs => by
                have h1 := (hot.lt k hk).1
                rcases hs with h | h
                · have := hbr.out.pen.lt; omega
                · have := (hbr.out.pen.2.1.lt k h).2; omega
              have hszt := hid (Nat.le_refl wt.heap.size)
              refine (pentext_bad _ _ _ _ _ wt hbt.out.pen).mono ?_
              rintro e w3 ⟨rfl, rfl⟩
              have hot3 := hot
              have hvv := hid (show ∀ k, v.ownBlock = some k → k < wr.heap.size + 1 ∨ wt.heap.size ≤ k from fun k hk => .inl (by have := (hbr.out.pen.2.1.lt k hk).2; omega))
              have hA3 := hAt.out
              have ho3 := hbt.out.want
              have ha3 := hbt.out.apart
              have hB3 := hBt.out
              have hp3 := hbt.out.pen
              go_wp2_with fail
              refine (reftext_any _ o.t wt hot3.rd (by rw [HLEN.out]; omega)).mono ?_
              rintro e w4 ⟨u4, rfl, hu4, hb4⟩
              have hp4 := hp3.below hb4
              have ho4 := ho3.below hb4
              have hB4 : Below w.heap.size w w4 := hB3.trans (hb4.mono hB3.size)
              obtain ⟨ua, un, uc, rfl⟩ : ∃ ua un uc, u4 = .slice ua un uc := by
                obtain ⟨a, c, e, _⟩ := hu4.rd
                exact ⟨a, _, c, e⟩
              have hun := hid hu4.caps.1
              have hnl := hid (show (Ink.text o.t).length ≤ 110 by unfold Ink.text; rw [List.length_append, HLEN.out]; have := (Ink.num_length o.t.length).1; rw [HLEN.out] at this; omega)
              have hot4 := hot3.below hb4
              have hszb := hb4.size
              clear hp3 ho3 hB3 hb4
              go_wp2_with (at_builtin; go_must (refine appf rfl (.tmp 37) (.tmp 39) rfl w.heap.size (.slice wa wn wc) _ ([] : List UInt8) (Ink.text o.t) (([] : List UInt8) ++ Ink.text o.t) (wn + un) rfl rfl ho4 hu4.rd (by rw [hwn.out, hun.out]) rfl (by have := HLL.out; have := hnl.out; omega) hB4.size ?_); intro ad5 cp5 w5 ho5 hg5 hq5)
              have hp5 := hp4.beside ha3 hg5
              have ha5 := apart_new hp4 ha3 hq5
              have hB5 : Below w.heap.size w w5 := ho4.grown hB4 hg5 (Nat.le_refl _) hB4.size
              have hot5 := hot4.keeps (Keeps.of_grown hg5) (fun q hq e => by
                have h1 := (hot4.lt q hq).1
                have h2 := (hbr.out.want.lt q e).2
                omega)
              have hqq := hid (show ∀ q, (Value.slice ad5 (wn + un) cp5).ownBlock = some q → q < wr.heap.size + 1 ∨ wt.heap.size ≤ q from fun q hq => by
                rcases hq5 q hq with h | h
                · left; have := (hbr.out.want.lt q h).2; omega
                · right; have := hszt.out; have := hszb; omega)
              have hob := hid (hbr.out.pen.lt)
              have HOT := hid hot
              obtain ⟨B0, hB0⟩ : ∃ B0, B0 = wr.heap.size := ⟨_, rfl⟩
              rw [← hB0] at hot5 hvv hqq hob HOT
              clear hot hg5 hq5 hp4 ho4 hot4 hu4
              go_wp2_with fail
              go_loopw [43] (fun i wi => ∃ (j : Nat) (l' : List UInt8), j ≤ 100 ∧ i = .int .i64 j ∧ Own wi (B0 + 1) (.slice ta (100) tc) l' ∧ l'.length = 100 ∧ PenAt wi w.heap.size w1.heap.size v (([] : List UInt8)) true ∧ Own wi w.heap.size (.slice ad5 (wn + un) cp5) (([] : List UInt8) ++ Ink.text o.t) ∧ Below w.heap.size w wi) (fun i _ => 100 - (intOf i).toNat)
              case atStart => exact ⟨0, o.t, by omega, rfl, hot5, HLEN.out, hp5, ho5, hB5⟩
              case round =>
                clear hot5 hp5 ho5 hB5
                obtain ⟨j, l', hj, rfl, hti, hli, hpi, hoi, hBi⟩ := hrel
                by_cases hjl : j < 100
                · rcases hti.shape with ⟨e, _⟩ | ⟨g, cp, e, hg1, hg2, _, _⟩
                  · simp only [Value.slice.injEq] at e
                    omega
                  · simp only [Value.slice.injEq] at e
                    obtain ⟨rfl, e2, e3⟩ := e
                    clear e2 e3
                    have hgt := (HOT.out.lt g rfl).2
                    obtain ⟨x, hx⟩ : ∃ x, x = l'.getD j 0 := ⟨_, rfl⟩
                    have hcell := hti.cell j (by omega)
                    rw [← hx, bv_eq] at hcell
                    have hxx := xor2 x
                    have hfz := hti.frozen j
                    have hst := hid (hti.stored j (turn1 x) _ rfl)
                    have hpi2 := hid (show ∀ V, PenAt (wr.setCell ⟨g, j, none⟩ V) w.heap.size w1.heap.size v (([] : List UInt8)) true from fun V => hpi.keeps (set_keeps wr g j V) (fun k hk e => by
                      rcases hk with h | h
                      · have := hob.out; omega
                      · rcases hvv.out k h with h' | h' <;> omega))
                    have hoi2 := hid (show ∀ V, Own (wr.setCell ⟨g, j, none⟩ V) w.heap.size (.slice ad5 (wn + un) cp5) (([] : List UInt8) ++ Ink.text o.t) from fun V => hoi.keeps (set_keeps wr g j V) (fun k hk e => by
                      rcases hqq.out k hk with h' | h' <;> omega))
                    have hBi2 := hid (show ∀ V, Below w.heap.size w (wr.setCell ⟨g, j, none⟩ V) from fun V => hBi.trans ((set_keeps wr g j V).below hBi.size (fun i hi => by subst hi; have := hob.out; have := hbr.out.pen.2.2.2; omega)))
                    have HLI := hid hli
                    clear hti hpi hoi hBi hx hB0 hli
                    go_wp2_with fail
                    go_roundw
                    case rel => exact ⟨j + 1, _, by omega, by go_num, hst.out, by rw [List.length_set]; exact HLI.out, hpi2.out _, hoi2.out _, hBi2.out _⟩
                    case measure => simp [intOf]; omega
                · obtain rfl : 100 = j := by omega
                  rw [show ((100 : Nat) : Int) = 100 from rfl]
                  go_wp2_with fail
                  refine (penbytes_any _ _ _ [] true wr hpi (by simp)).mono ?_
                  rintro e w8 ⟨u8, rfl, hu8, hb8⟩
                  have hp8 := (hpi).below hb8
                  have hB8 : Below w.heap.size w w8 := (hBi).trans (hb8.mono (hBi).size)
                  go_wp2_with fail
                  refine (same_eq _ _ [] w8 hu8.rd (Rd.nil _)).mono ?_
                  rintro e w9 ⟨rfl, rfl⟩
                  go_wp2_with fail
                  go_roundw
                  case rel => exact ⟨k + 1, _, none, 0, 0, true, [], by omega, by omega, by go_num, rfl, (by first | rfl | (simp; done) | (simp; omega)), hp8, Own.nil _ _, (fun _ h => by simp [Value.ownBlock] at h), (fun _ => rfl), by show 0 ≤ _; omega, hB8⟩
                  case measure => simp [intOf]; omega
      · obtain rfl : k = 60 := by omega
        rw [show ((60 : Nat) : Int) = 60 from rfl]
        have hcell0' := hcell0
        go_wp2
        go_ret
        exact ⟨rfl, hB.alloc hB.size _⟩
    · obtain rfl : len0 = k := by omega
      go_wp2
      go_ret
      exact ⟨rfl, hB⟩

/-! ### THE ROW's STEP: WRITTEN OUT: LEAVE IT -/
set_option maxRecDepth 100000 in
theorem lifted (os : Os) (started : os.Started) (H : Type) (enc : TypeId × Value → H) :
    ReturnsInHanded {} Try.checked os 4 .any (Rows.inkWritesSpec.pre6 enc Try.prog Try.f4 Rows.inkWritesRow.domain false) (Rows.inkWritesSpec.post enc Try.prog Try.f4 false true false false) := by
  refine returnsInHanded_of_change (C := Try.checked) own started (by kernel_rfl) Try.func4
    (ChangeSpec.witness6 (enc := enc) (C := Try.checked) false ⟨#[], #[.slice none 0 0], []⟩ 8 (by kernel_rfl) (by kernel_rfl) (by kernel_rfl) (by kernel_rfl)) ?_
  intro W base args ds gs before hval0 hW hcnd _
  have hval : ∀ (j : Nat) t v, Try.f4.params[j]? = some t → args[j]? = some v → Value.okWide Try.prog W .any base t v := hval0
  have hW' := hW
  obtain ⟨p, q, hA0, hV, rfl, hfz, hnd⟩ := hW
  have hA : DataW.TrodAll enc Try.prog W 0 (fun _ => true) true Try.f4.params.toList args.toList ds p := hA0
  rw [Try.params4] at hA hval
  obtain ⟨v0, vs0, d0, ds0, p0, q0, hargs, rfl, rfl, h0, r0⟩ := trodAll_cons hA
  obtain ⟨rfl, rfl, rfl⟩ := trodAll_nil r0
  obtain rfl : args = #[v0] := by cases args; simp_all
  obtain ⟨rfl, rfl⟩ := trodVars_none hV
  obtain ⟨a0, len0, cap0, rfl⟩ := okWide_slice Try.underlying36 (hval 0 36 v0 rfl rfl)
  have k0 := h0
  have lt0 : ∀ x ∈ p0, x.block < W.heap.size := by obtain ⟨m, hm⟩ := k0; exact DataW.trod_lt m _ _ _ hm
  have w0 : IsOps W a0 len0 cap0 := isOps_of h0
  clear hA0 hval0
  refine (walk a0 len0 cap0 W w0).mono fun e W' ⟨he, bel⟩ => ?_
  subst he
  exact ⟨_, rfl, _, _, _, [], _, [], hW', trodAll_mk1 (shut_bool Try.underlying4 _), (trodAll_cons_mk (Below.trod laidOut (by kernel_rfl) (of_decide_eq_true (by kernel_rfl)) k0 bel lt0) trodAll_mk0), rfl, bel.frame _, fun h => by cases h⟩

theorem over : Rows.inkWritesRow.holds Try.pinned (OpenSpec.ofChange Rows.inkWritesSpec) :=
  OpenClaim.holds_of_wide 4 Try.f4 rfl rfl rfl rfl rfl rfl rfl ⟨rfl, rfl, rfl, rfl, rfl⟩ rfl rfl rfl rfl rfl (by kernel_rfl) Try.func4 (by kernel_rfl)
    (of_decide_eq_true (by kernel_rfl)) (by unfold Func.isWrapper; first | (rw [if_pos (by decide +kernel)]; kernel_rfl) | (rw [if_neg (by decide +kernel)]; exact ⟨rfl, rfl⟩))
    (fun os started H enc _ => lifted os started H enc)

/-- ████ THE STATEMENT ████ -/
theorem inkWrites_holds : Rows.InkWritesSaid := over
#print axioms inkWrites_holds
end Go.Proofs.Ytoglhleljknhcaa.inkWrites
