/-
  What comes in, opened: a slice's block is there.
-/
import Derived.Test.YtafpgglebjllbaaNoteO
namespace Go.Proofs.Ytafpgglebjllbaa
open Go.RowKit Go.ChangeShapes Go.WideShapes Go.Deep

theorem lt_of_has {P : Program} {w : World} {r : Reach} {base : Nat} {a : Addr} {e : TypeId} {n : Nat} (h : w.has P r base a e n) : a.block < w.heap.size := by
  obtain ⟨_, _, row, cells, hs, _⟩ := h
  unfold World.shape? at hs
  rcases Nat.lt_or_ge a.block w.heap.size with h' | h'
  · exact h'
  · rw [Array.getElem?_eq_none h'] at hs
    simp at hs

set_option maxRecDepth 100000 in
theorem block_of_okWide {w : World} {r : Reach} {base : Nat} {A : Option Addr} {L C : Nat} (h : Cell.okWide Try.prog w r base 23 (.slice A L C)) (K : Nat) : ∀ k, (Value.slice A K C).ownBlock = some k → k < w.heap.size := by
  intro k hk
  unfold Cell.okWide at h
  rw [Try.underlying23] at h
  cases A with
  | none => cases hk
  | some a =>
    simp only at h
    unfold Cell.ok at h
    rw [Try.underlying23] at h
    simp only at h
    have := lt_of_has h.2.2
    simp [Value.ownBlock] at hk
    omega

def IsNote2 (w : World) (v : Value) : Prop := ∃ (x : Note.N) (A : Option Addr) (L C : Nat) (zs : List Int), v = .agg #[.int .u8 (x.k : Int), .int .u8 (x.n : Int), .int .u32 (x.e : Int), .int .u32 (x.l : Int), .int .u32 (x.t : Int), .int .u32 (x.g : Int), .int .u32 (x.j : Int), .int .u32 (x.v : Int), .int .u8 (x.r : Int), .int .i64 x.c, .int .u32 (x.f : Int), .int .u32 (x.o : Int), .slice A L C] ∧ x.wf ∧ IsRow .u8 w A L C zs ∧ ∀ K k, (Value.slice A K C).ownBlock = some k → k < w.heap.size
def IsPacket2 (w : World) (v : Value) : Prop := ∃ (x : Note.P) (A : Option Addr) (L C : Nat) (zs : List Int), v = .agg #[.int .u8 (x.n : Int), .int .u32 (x.e : Int), .int .u32 (x.l : Int), .int .u32 (x.s : Int), .int .u32 (x.a : Int), .bool x.p, .slice A L C] ∧ x.wf ∧ IsRow .u8 w A L C zs ∧ ∀ K k, (Value.slice A K C).ownBlock = some k → k < w.heap.size

set_option maxRecDepth 100000 in
theorem isNote2_of {H : Type} {enc : TypeId × Value → H} {w : World} {base b0 : Nat} {held : Bool} {r : Reach} {v : Value} {d : DataW H} {p : List MemPlace}
    (hv : Value.okWide Try.prog w r b0 25 v) (h : DataW.Trod enc Try.prog w base (fun _ => true) held 25 v d p) : IsNote2 w v := by
  obtain ⟨x, A, L, C, zs, rfl, hx, hr⟩ := isNote_of hv h
  refine ⟨x, A, L, C, zs, rfl, hx, hr, fun K => ?_⟩
  unfold Value.okWide at hv
  rw [Try.underlying25] at hv
  obtain ⟨cs, e, _, ts, hts, _, hall⟩ := hv
  have hc : Try.prog.cellTypes Try.prog.depth 25 = some [5, 5, 22, 22, 22, 22, 22, 22, 5, 3, 22, 22, 23] := by kernel_rfl
  rw [hc] at hts
  cases hts
  cases e
  obtain ⟨u, hu, hk⟩ := hall 12 (.slice A L C) rfl
  have hu2 : u = 23 := (Option.some.inj hu).symm
  subst hu2
  exact block_of_okWide hk K

set_option maxRecDepth 100000 in
theorem isPacket2_of {H : Type} {enc : TypeId × Value → H} {w : World} {base b0 : Nat} {held : Bool} {r : Reach} {v : Value} {d : DataW H} {p : List MemPlace}
    (hv : Value.okWide Try.prog w r b0 38 v) (h : DataW.Trod enc Try.prog w base (fun _ => true) held 38 v d p) : IsPacket2 w v := by
  obtain ⟨x, A, L, C, zs, rfl, hx, hr⟩ := isPacket_of hv h
  refine ⟨x, A, L, C, zs, rfl, hx, hr, fun K => ?_⟩
  unfold Value.okWide at hv
  rw [Try.underlying38] at hv
  obtain ⟨cs, e, _, ts, hts, _, hall⟩ := hv
  have hc : Try.prog.cellTypes Try.prog.depth 38 = some [5, 22, 22, 22, 22, 4, 23] := by kernel_rfl
  rw [hc] at hts
  cases hts
  cases e
  obtain ⟨u, hu, hk⟩ := hall 6 (.slice A L C) rfl
  have hu2 : u = 23 := (Option.some.inj hu).symm
  subst hu2
  exact block_of_okWide hk K

end Go.Proofs.Ytafpgglebjllbaa
