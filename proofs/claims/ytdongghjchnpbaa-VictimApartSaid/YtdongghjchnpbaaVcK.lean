/-
  Layer 15: Cands in memory.
-/
import Derived.Test.YtdongghjchnpbaaVcStd
import Derived.Test.YtdongghjchnpbaaAppR
namespace Go.Proofs.Ytdongghjchnpbaa
open Go.RowKit Go.Shelf
set_option linter.unusedVariables false

def ccel (c : Cd) : List Value := [.int .u32 (c.1 : Nat), .int .u8 (c.2 : Nat)]
def ccels (l : List Cd) : List Value := l.flatMap ccel
theorem ccels_snoc (l : List Cd) (c : Cd) : ccels (l ++ [c]) = ccels l ++ [.int .u32 (c.1 : Nat), .int .u8 (c.2 : Nat)] := by simp [ccels, ccel]
theorem infoCand : (Try.prog.info? 80).map (fun i => (i.zero, i.size, i.bytes)) = some (some (.agg #[.int .u32 0, .int .u8 0]), 2, 8) := by kernel_rfl
theorem infoRCand : (Try.prog.info? 104).map (fun i => (i.zero, i.size, i.bytes)) = some (some (.agg #[.int .u32 0, .int .u8 0]), 2, 8) := by kernel_rfl
theorem own_grown15 {w w' : World} {base : Nat} {e : TypeId} {size : Nat} {v : Value} {n : Nat} {xs : List Value} (h : w.ownsRow base e size v n xs) (hg : w.grownBy w' v.ownBlock) (hb : base ≤ w.heap.size) : KT [e] base w w' := by
  refine KT.of_keeps (Keeps.of_grown hg) (fun k _ hk => ?_) hb
  obtain ⟨cur, hc⟩ := owns_ty h k hk
  exact ⟨(World.ownsRow.lt h k hk).1, _, _, _, hc, by simp⟩

end Go.Proofs.Ytdongghjchnpbaa
