/-
  A block that came in, opened.
-/
import Derived.Test.YtbagpckiegpalaaBlkT
import Derived.Deep.Slices
import Derived.ChangeSlices
import Derived.OpenShut
namespace Go.Proofs.Ytbagpckiegpalaa
open Go.RowKit Go.ChangeShapes Go.WideShapes Go.Deep

def IsBlock6 (w : World) (v : Value) : Prop := ∃ (n0 n1 n2 n3 : Nat) (A : Option Addr) (L C : Nat) (zs : List Int), v = .agg #[.int .u8 (n0 : Int), .int .u32 (n1 : Int), .int .u32 (n2 : Int), .int .u32 (n3 : Int), .slice A L C] ∧ (n0 < 256 ∧ n1 < 4294967296 ∧ n2 < 4294967296 ∧ n3 < 4294967296) ∧ IsRow .u8 w A L C zs

set_option maxRecDepth 100000 in
set_option maxHeartbeats 1000000 in
theorem isBlock6_of {H : Type} {enc : TypeId × Value → H} {w : World} {base b0 : Nat} {held : Bool} {r : Reach} {v : Value} {d : DataW H} {p : List MemPlace}
    (hv : Value.okWide Try.prog w r b0 34 v) (h : DataW.Trod enc Try.prog w base (fun _ => true) held 34 v d p) : IsBlock6 w v := by
  have hC : Try.prog.cellsOf 34 = 5 := by kernel_rfl
  have h_s_uint8 : Try.prog.cellsOf 32 = 1 := by kernel_rfl
  have h_uint32 : Try.prog.cellsOf 31 = 1 := by kernel_rfl
  have h_uint8 : Try.prog.cellsOf 5 = 1 := by kernel_rfl
  obtain ⟨cs, rfl, hsz⟩ := okWide_struct Try.underlying34 hv
  rw [hC] at hsz
  obtain ⟨fuel, hf⟩ := h
  obtain ⟨xs, n', _, _, _, hxl, hfld⟩ := DataW.trod_struct Try.underlying34 hf
  obtain ⟨l⟩ := cs
  have f0 : DataW.trod enc Try.prog w base (fun _ => true) held n' 5 ((l.drop 0).take (Try.prog.cellsOf 5)) = xs[0]? := hfld 0 _ rfl
  rw [h_uint8] at f0
  have f1 : DataW.trod enc Try.prog w base (fun _ => true) held n' 31 ((l.drop 1).take (Try.prog.cellsOf 31)) = xs[1]? := hfld 1 _ rfl
  rw [h_uint32] at f1
  have f2 : DataW.trod enc Try.prog w base (fun _ => true) held n' 31 ((l.drop 2).take (Try.prog.cellsOf 31)) = xs[2]? := hfld 2 _ rfl
  rw [h_uint32] at f2
  have f3 : DataW.trod enc Try.prog w base (fun _ => true) held n' 31 ((l.drop 3).take (Try.prog.cellsOf 31)) = xs[3]? := hfld 3 _ rfl
  rw [h_uint32] at f3
  have f4 : DataW.trod enc Try.prog w base (fun _ => true) held n' 32 ((l.drop 4).take (Try.prog.cellsOf 32)) = xs[4]? := hfld 4 _ rfl
  rw [h_s_uint8] at f4
  match l, hsz with
  | [c0, c1, c2, c3, c4], _ =>
    match xs, hxl with
    | [y0, y1, y2, y3, y4], _ =>
      obtain ⟨d0, e0, _, wf0⟩ := DataW.trod_int Try.underlying5 (show _ = some y0 from f0)
      simp at e0
      subst e0
      have b0 := bounds_u8 wf0
      obtain ⟨n0, rfl⟩ := Int.eq_ofNat_of_zero_le (show 0 ≤ d0 by omega)
      obtain ⟨d1, e1, _, wf1⟩ := DataW.trod_int Try.underlying31 (show _ = some y1 from f1)
      simp at e1
      subst e1
      have b1 := bounds_u32 wf1
      obtain ⟨n1, rfl⟩ := Int.eq_ofNat_of_zero_le (show 0 ≤ d1 by omega)
      obtain ⟨d2, e2, _, wf2⟩ := DataW.trod_int Try.underlying31 (show _ = some y2 from f2)
      simp at e2
      subst e2
      have b2 := bounds_u32 wf2
      obtain ⟨n2, rfl⟩ := Int.eq_ofNat_of_zero_le (show 0 ≤ d2 by omega)
      obtain ⟨d3, e3, _, wf3⟩ := DataW.trod_int Try.underlying31 (show _ = some y3 from f3)
      simp at e3
      subst e3
      have b3 := bounds_u32 wf3
      obtain ⟨n3, rfl⟩ := Int.eq_ofNat_of_zero_le (show 0 ≤ d3 by omega)
      rcases open_ints Try.underlying32 Try.underlying5 h_uint8 (show _ = some y4 from f4) with ⟨e2, _⟩ | ⟨x2, l2, cp2, zs, e2, _, hl2, hm2, hz2, _, hcell2, hwz2⟩
      · simp at e2
        subst e2
        exact ⟨n0, n1, n2, n3, none, 0, 0, [], rfl, ⟨by omega, by omega, by omega, by omega⟩, .inl ⟨rfl, rfl, rfl, rfl⟩⟩
      · simp at e2
        subst e2
        exact ⟨n0, n1, n2, n3, some x2, l2, cp2, zs, rfl, ⟨by omega, by omega, by omega, by omega⟩, .inr ⟨x2, rfl, hl2, hm2, by simpa using hz2, hcell2, hwz2⟩⟩

/-- As a block: its bytes cut to k. -/
theorem IsBlock6.blk {w : World} {n0 n1 n2 n3 : Nat} {A : Option Addr} {L C : Nat} {zs : List Int} (hn : n0 < 256 ∧ n1 < 4294967296 ∧ n2 < 4294967296 ∧ n3 < 4294967296) (h : IsRow .u8 w A L C zs) (k : Nat) (hk : k ≤ L) :
    ∃ B : Blk, B.data.length = k ∧ Rd w (.slice A k C) B.data ∧ n0 = B.kind.toNat ∧ n1 = B.epoch.toNat ∧ n2 = B.a.toNat ∧ n3 = B.b.toNat := by
  obtain ⟨l, hl, hr⟩ := h.rd k hk
  refine ⟨⟨UInt8.ofNat n0, BitVec.ofNat 32 n1, BitVec.ofNat 32 n2, BitVec.ofNat 32 n3, l⟩, hl, hr, ?_, ?_, ?_, ?_⟩
  · show n0 = (UInt8.ofNat n0).toNat
    simp
    omega
  · show n1 = (BitVec.ofNat 32 n1).toNat
    simp
    omega
  · show n2 = (BitVec.ofNat 32 n2).toNat
    simp
    omega
  · show n3 = (BitVec.ofNat 32 n3).toNat
    simp
    omega

end Go.Proofs.Ytbagpckiegpalaa
