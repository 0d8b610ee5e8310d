/-
  A pen's calls: their contracts.
-/
import Derived.Test.YtahiaifdfgkemaaPenKit
import Derived.Test.YtahiaifdfgkemaaInkM
namespace Go.Proofs.Ytahiaifdfgkemaa
open Go.RowKit

set_option maxHeartbeats 400000 in
theorem new_any (w : World) :
    Calls Try.prog 26 #[] w fun e w' => e = .returned (.pointer (some ⟨w.heap.size, 0, none⟩)) ∧ PenAt w' w.heap.size w.heap.size (.slice none 0 0) [] false ∧ Below w.heap.size w w' ∧ w'.heap.size = w.heap.size + 1 := by
  go_enter Try.func26, Try.ntmps26
  go_wp2
  go_ret
  refine ⟨rfl, ⟨heap_alloc_new w _, Own.nil _ _, by simp [Value.ownBlock], Nat.le_refl _⟩, (Below.refl _ _).alloc (Nat.le_refl _) _, by simp⟩

theorem or128 (m : Nat) : Go.bits .or .u8 ((m : Int) % 256) 128 = ((UInt8.ofNat (m % 128 + 128)).toNat : Int) := by
  have h : ∀ x : Fin 256, x.val ||| 128 = x.val % 128 + 128 := by decide +kernel
  have h1 := h ⟨m % 256, Nat.mod_lt _ (by omega)⟩
  have e : ((m : Int) % 256) = ((m % 256 : Nat) : Int) := by simp
  rw [e, show ((128 : Int)) = ((128 : Nat) : Int) from rfl, u8_or_nat _ _ (Nat.mod_lt _ (by omega)) (by omega), h1, UInt8.toNat_ofNat']
  simp only [Int.natCast_inj]
  omega

set_option maxRecDepth 100000 in
set_option maxHeartbeats 1000000 in
theorem pennum_good (b base : Nat) (v : Value) (l : List UInt8) (n : Nat) (hn : n < 18446744073709551616) (w : World) (h : PenAt w base b v l false) (hl : l.length ≤ 1000000) (hbase : base ≤ w.heap.size) :
    Calls Try.prog 27 #[.pointer (some ⟨b, 0, none⟩), .int .u64 n] w fun e w' => e = .returned (.tuple #[]) ∧ ∃ v', PenAt w' base b v' (l ++ Ink.num n) false ∧ Keeps (penS b v) w w' ∧ (∀ k, v'.ownBlock = some k → v.ownBlock = some k ∨ w.heap.size ≤ k) := by
  have hc1 := h.cell1
  go_enter Try.func27, Try.ntmps27
  go_wp2
  have HN := hid hn
  have H := hid h
  have hk0 := hid (show n < 18446744073709551616 ∧ [] ++ Ink.num n = Ink.num n from ⟨hn, rfl⟩)
  clear hc1 hn h
  go_loopw [1] (fun u wr => ∃ (m : Nat) (pre : List UInt8) (ad : Option Addr) (N cp : Nat), u = .int .u64 m ∧ Hid (m < 18446744073709551616 ∧ pre ++ Ink.num m = Ink.num n) ∧ PenAt wr base b (.slice ad N cp) (l ++ pre) false ∧ Keeps (penS b v) w wr ∧ (∀ k, (Value.slice ad N cp).ownBlock = some k → v.ownBlock = some k ∨ w.heap.size ≤ k)) (fun u _ => (intOf u).toNat)
  case atStart =>
    obtain ⟨ad, cp, e, _⟩ := H.out.2.1.rd
    subst e
    exact ⟨n, [], ad, l.length, cp, rfl, hk0, by rw [List.append_nil]; exact H.out, Keeps.refl _ _, fun k hk => .inl hk⟩
  case round =>
    obtain ⟨m, pre, ad, N, cp, rfl, HM, hp, hk, hfr⟩ := hrel
    have hlen : pre.length ≤ 9 := by
      have h1 := congrArg List.length HM.out.2
      rw [List.length_append] at h1
      have := (Ink.num_length n).1
      have := (Ink.num_length m).2
      omega
    have hN := hid (show N = l.length + pre.length by have := hp.2.1.caps.1; rw [this, List.length_append])
    have hcell := hp.cell0
    have hbs : base ≤ wr.heap.size := Nat.le_trans hbase hk.size
    by_cases hm : 128 ≤ m
    · go_wp2_with (at_builtin; go_must (refine appf rfl (.tmp 18) (.tmp 22) rfl base (.slice ad N cp) _ (l ++ pre) [UInt8.ofNat (m % 128 + 128)] (l ++ (pre ++ [UInt8.ofNat (m % 128 + 128)])) (N + 1) rfl rfl (hp.2.1.alloc _) (Rd.one _ _ _ (or128 m)) (by rw [hN.out, List.length_append]; rfl) (by simp) (by rw [List.length_append]; simp; omega) (by simp; omega) ?_); intro ad4 cp4 w4 hown4 hgrow4 hq4; obtain ⟨g1, g2, g3, g4, g5⟩ := hp.appended ((Below.refl _ _).alloc (Nat.le_refl _) _) hgrow4 hown4 hq4; have G3 := hid g3; have G4 := hid g4; have G5 := hid g5; clear g3 g4 g5 hgrow4 hown4 hq4)
      go_roundw
      case rel =>
        refine ⟨m / 128, pre ++ [UInt8.ofNat (m % 128 + 128)], ad4, N + 1, cp4, by go_num, ⟨by have := HM.out.1; omega, ?_⟩, G3.out, ?_, ?_⟩
        · rw [← HM.out.2, Ink.num_step m hm HM.out.1, List.append_assoc]; rfl
        · exact hk.trans' G4.out (fun i hi hs => by
            rcases hs with rfl | hs
            · exact .inl rfl
            · rcases hfr i hs with h' | h'
              · exact .inr h'
              · omega)
        · intro k hk'
          rcases G5.out k hk' with h' | h'
          · exact hfr k h'
          · exact .inr (Nat.le_trans hk.size h')
      case measure => simp [intOf]; omega
    · have hm' : m < 128 := by omega
      have hb8 : (m : Int) % 256 = ((UInt8.ofNat m).toNat : Int) := by rw [UInt8.toNat_ofNat']; omega
      have hm256 : (m : Int) = ((UInt8.ofNat m).toNat : Int) := by rw [UInt8.toNat_ofNat']; omega
      have HB8 := hid hb8
      have HM256 := hid hm256
      clear hb8 hm256
      go_wp2_with (at_builtin; go_must (refine appf rfl (.tmp 32) (.tmp 35) rfl base (.slice ad N cp) _ (l ++ pre) [UInt8.ofNat m] (l ++ Ink.num n) (N + 1) rfl rfl (hp.2.1.alloc _) (Rd.one _ _ _ (by first | exact HM256.out | exact HB8.out)) (by rw [hN.out, List.length_append]; rfl) (by rw [List.append_assoc, ← Ink.num_small m hm', HM.out.2]) (by rw [List.length_append]; simp; omega) (by simp; omega) ?_); intro ad4 cp4 w4 hown4 hgrow4 hq4; obtain ⟨g1, g2, g3, g4, g5⟩ := hp.appended ((Below.refl _ _).alloc (Nat.le_refl _) _) hgrow4 hown4 hq4; have G3 := hid g3; have G4 := hid g4; have G5 := hid g5; clear g3 g4 g5 hgrow4 hown4 hq4)
      go_end0
      refine ⟨rfl, _, G3.out, ?_, ?_⟩
      · exact hk.trans' G4.out (fun i hi hs => by
          rcases hs with rfl | hs
          · exact .inl rfl
          · rcases hfr i hs with h' | h'
            · exact .inr h'
            · omega)
      · intro k hk'
        rcases G5.out k hk' with h' | h'
        · exact hfr k h'
        · exact .inr (Nat.le_trans hk.size h')

end Go.Proofs.Ytahiaifdfgkemaa
