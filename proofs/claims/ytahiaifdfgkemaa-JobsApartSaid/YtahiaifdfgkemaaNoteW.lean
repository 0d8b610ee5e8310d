/-
  Numbers one behind the other, written by the code and by the document: contracts.
-/
import Derived.Test.YtahiaifdfgkemaaNoteD
import Derived.Test.YtahiaifdfgkemaaPen2
import Derived.Test.YtahiaifdfgkemaaRefNum
import Derived.Test.YtahiaifdfgkemaaRefTie
import Derived.Test.YtahiaifdfgkemaaTie
import Derived.Test.YtahiaifdfgkemaaAwake1
namespace Go.Proofs.Ytahiaifdfgkemaa
open Go.RowKit

/-- A block of numbers. -/
def U64 (w : World) (g : Nat) (ns : List Nat) : Prop := w.heap[g]? = some (.cells (ns.map (fun n : Nat => Value.int .u64 (n : Int))).toArray 72 (0, 0))

theorem U64.lt {w : World} {g : Nat} {ns : List Nat} (h : U64 w g ns) : g < w.heap.size := (Array.getElem?_eq_some_iff.1 h).1
theorem U64.cell {w : World} {g : Nat} {ns : List Nat} (h : U64 w g ns) (j : Nat) (hj : j < ns.length) : w.cell? ⟨g, j, none⟩ = some (.int .u64 ((ns.getD j 0 : Nat) : Int)) := by
  rw [cell_of_row _ _ _ _ _ _ h]
  simp [List.getElem?_map, List.getElem?_eq_getElem hj]

theorem nums_take (ns : List Nat) (k : Nat) (h : k < ns.length) : Note.nums (ns.take (k + 1)) = Note.nums (ns.take k) ++ Ink.num (ns.getD k 0) := by
  rw [List.take_succ_eq_append_getElem h, Note.nums_append]
  simp [Note.nums, List.getElem?_eq_getElem h]

theorem nums_take_le (ns : List Nat) (k : Nat) : (Note.nums (ns.take k)).length ≤ 10 * ns.length := by
  have := Note.nums_length (ns.take k)
  rw [List.length_take] at this
  omega

/-- All fit 64 bits. -/
def fits64 (ns : List Nat) : Prop := ∀ j, j < ns.length → ns.getD j 0 < 18446744073709551616

set_option maxHeartbeats 1000000 in
theorem write_any (b base g : Nat) (v : Value) (L : List UInt8) (ns : List Nat) (w : World) (h : PenAt w base b v L false) (hg : U64 w g ns) (hsep : ¬ penS b v g) (hl : L.length + 10 * ns.length ≤ 900000) (hns : fits64 ns) (hbase : base ≤ w.heap.size) (N : Nat) (hN : N = ns.length) :
    Calls Try.prog 43 #[.pointer (some ⟨b, 0, none⟩), .slice (some ⟨g, 0, none⟩) N N] w fun e w' => e = .returned (.tuple #[]) ∧ Wrote w base b v L (Note.nums ns) w' := by
  have HG := hid hg
  have HNS := hid hns
  have HSEP := hid hsep
  have hNl : N ≤ 90000 := by omega
  have HN := hid hN
  have H := hid h
  have HL := hid hl
  clear hg hns hsep hN h hl
  go_enter Try.func43, Try.ntmps43
  go_wp2
  go_loopw [8] (fun i wr => ∃ (k : Nat) (v' : Value), k ≤ N ∧ i = .int .i64 k ∧ PenAt wr base b v' (L ++ Note.nums (ns.take k)) false ∧ Keeps (penS b v) w wr ∧ (∀ q, v'.ownBlock = some q → v.ownBlock = some q ∨ w.heap.size ≤ q)) (fun i _ => N - (intOf i).toNat)
  case atStart => exact ⟨0, v, Nat.zero_le _, rfl, by simpa [Note.nums] using H.out, Keeps.refl _ _, fun q hq => .inl hq⟩
  case round =>
    obtain ⟨k, v', hk, rfl, hp, hkp, hfr⟩ := hrel
    by_cases hlt : k < N
    · have hc : wr.cell? ⟨g, k, none⟩ = some (.int .u64 ((ns.getD k 0 : Nat) : Int)) := by
        rw [hkp.cell (p := ⟨g, k, none⟩) HG.out.lt HSEP.out]
        exact HG.out.cell k (by have := HN.out; omega)
      obtain ⟨n, hn⟩ : ∃ n, n = ns.getD k 0 := ⟨_, rfl⟩
      rw [← hn] at hc
      have HLEN := hid (show (L ++ Note.nums (ns.take k)).length ≤ 1000000 by
        rw [List.length_append]
        have := nums_take_le ns k
        have := HL.out
        omega)
      have HT := hid (show L ++ Note.nums (ns.take (k + 1)) = (L ++ Note.nums (ns.take k)) ++ Ink.num n by rw [nums_take ns k (by have := HN.out; omega), hn, List.append_assoc])
      have HLT := hid (show n < 18446744073709551616 by rw [hn]; exact HNS.out k (by have := HN.out; omega))
      have HP := hid hp
      clear hn hp
      go_wp2_with fail
      refine (pennum_at b base v' (L ++ Note.nums (ns.take k)) n _ rfl HLT.out wr HP.out HLEN.out (Nat.le_trans hbase hkp.size)).mono ?_
      rintro e w1 ⟨rfl, v1, hp1, hk1, hf1⟩
      have HP1 := hid hp1
      clear hp1
      go_wp2
      go_roundw
      case rel =>
        refine ⟨k + 1, v1, by omega, by go_num, by rw [HT.out]; exact HP1.out, ?_, ?_⟩
        · exact hkp.trans' hk1 (fun i hi hs => by
            rcases hs with rfl | hs
            · exact .inl rfl
            · rcases hfr i hs with h' | h'
              · exact .inr h'
              · omega)
        · intro q hq
          rcases hf1 q hq with h' | h'
          · exact hfr q h'
          · exact .inr (Nat.le_trans hkp.size h')
      case measure => simp [intOf]; omega
    · obtain rfl : k = N := by omega
      have hall : ns.take k = ns := List.take_of_length_le (by have := HN.out; omega)
      rw [hall] at hp
      clear hall
      go_wp2
      go_end0
      exact ⟨rfl, v', hp, hkp, hfr⟩

end Go.Proofs.Ytahiaifdfgkemaa
