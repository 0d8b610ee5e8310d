/-
  No cell of these rows narrows 'for every input' (looked for: loops, veiled, ifaces, maps, wideKeys, modest, calm, conditions, laid).
  DERIVED. THE GIVEN ROWS OF THIS SEAT. 6 by the template 'for every input the law returns true; each argument reads behind the call as it read before'; 0 by the template 'total and deterministic' (their statements: YtbagpckiegpalaaTotals.lean).
  GIVEN WITH THE SEED: the statements are not yours to turn. If you find one false, say at which input.
  Laid BY PROGRAM, IN A SANDBOX (cutbox-rows.mjs): the forced cells as the released guide's own fill.sh prints them over the translation 5d24a3a5413b9290… (all of the seat's roots in one cut). By AI agents, Wed Nov 11 2026. No macro, syntax, notation, axiom, sorry.
-/
import Derived.Test.YtbagpckiegpalaaChecked
import GoSem.Claim
import GoSem.ClaimJoined
import GoSem.ClaimMapViews
import Derived.JoinedTies
import Derived.KernelRfl
namespace Go.Proofs.Ytbagpckiegpalaa
/- THE CELL 'sum', in the pinned program and in every row, IS THE sha256 OF THE DUMP (.gsa) THAT YtbagpckiegpalaaProg.lean LOADS. Nothing in Lean hashes anything: it is a label: what it is worth is what the hold of that sum in a sandbox is worth. -/
noncomputable def Try.pinned : Pinned := { name := "ytbagpckiegpalaa", sum := "5d24a3a5413b92907a33686b1e95c7b400a4700511572da401e9143455e5ecf2", checked := Try.checked }
namespace Rows
def none {H : Type} : Left H := { results := [], args := [] }

/-- 'quadrillelaw06.BlockPlays': WHATEVER THE INPUT: true; the input reads as it did. -/
def blockPlaysSpec : ChangeSpec := { name := "blockPlays", fn := fun _ => fun
  | [d1, d2, d3] => { results := [.lit (.bool true)], args := [d1, d2, d3] }
  | _ => none }
def blockPlaysRow : OpenClaim := { program := "ytbagpckiegpalaa", sum := "5d24a3a5413b92907a33686b1e95c7b400a4700511572da401e9143455e5ecf2", func := "quadrille/quadrillelaw06.BlockPlays", spec := "blockPlays", inPlace := ["slices.overlaps[quadrille/block.run]"], unfollowed := true, recurses := true, apart := false }
def BlockPlaysSaid : Prop := blockPlaysRow.holds Try.pinned (OpenSpec.ofChange blockPlaysSpec)

/-- ITS FALSE NEIGHBOUR: 'it returns false'. Refute it at one input. -/
def blockPlaysWrong : ChangeSpec := { name := "blockPlays", fn := fun _ => fun
  | [d1, d2, d3] => { results := [.lit (.bool false)], args := [d1, d2, d3] }
  | _ => none }
def BlockPlaysWrongFalsely : Prop := blockPlaysRow.holds Try.pinned (OpenSpec.ofChange blockPlaysWrong)

/-- 'quadrillelaw06.BlockReads': WHATEVER THE INPUT: true; the input reads as it did. -/
def blockReadsSpec : ChangeSpec := { name := "blockReads", fn := fun _ => fun
  | [d] => { results := [.lit (.bool true)], args := [d] }
  | _ => none }
def blockReadsRow : OpenClaim := { program := "ytbagpckiegpalaa", sum := "5d24a3a5413b92907a33686b1e95c7b400a4700511572da401e9143455e5ecf2", func := "quadrille/quadrillelaw06.BlockReads", spec := "blockReads", inPlace := ["slices.overlaps[quadrille/block.run]"], unfollowed := true, recurses := true, apart := false }
def BlockReadsSaid : Prop := blockReadsRow.holds Try.pinned (OpenSpec.ofChange blockReadsSpec)

/-- ITS FALSE NEIGHBOUR: 'it returns false'. Refute it at one input. -/
def blockReadsWrong : ChangeSpec := { name := "blockReads", fn := fun _ => fun
  | [d] => { results := [.lit (.bool false)], args := [d] }
  | _ => none }
def BlockReadsWrongFalsely : Prop := blockReadsRow.holds Try.pinned (OpenSpec.ofChange blockReadsWrong)

/-- 'quadrillelaw06.BlockRoots': WHATEVER THE INPUT: true; the input reads as it did. -/
def blockRootsSpec : ChangeSpec := { name := "blockRoots", fn := fun _ => fun
  | [d1, d2, d3, d4] => { results := [.lit (.bool true)], args := [d1, d2, d3, d4] }
  | _ => none }
def blockRootsRow : OpenClaim := { program := "ytbagpckiegpalaa", sum := "5d24a3a5413b92907a33686b1e95c7b400a4700511572da401e9143455e5ecf2", func := "quadrille/quadrillelaw06.BlockRoots", spec := "blockRoots", inPlace := ["slices.overlaps[quadrille/block.run]"], unfollowed := true, recurses := true, apart := false }
def BlockRootsSaid : Prop := blockRootsRow.holds Try.pinned (OpenSpec.ofChange blockRootsSpec)

/-- ITS FALSE NEIGHBOUR: 'it returns false'. Refute it at one input. -/
def blockRootsWrong : ChangeSpec := { name := "blockRoots", fn := fun _ => fun
  | [d1, d2, d3, d4] => { results := [.lit (.bool false)], args := [d1, d2, d3, d4] }
  | _ => none }
def BlockRootsWrongFalsely : Prop := blockRootsRow.holds Try.pinned (OpenSpec.ofChange blockRootsWrong)

/-- 'quadrillelaw06.BlockMaps': WHATEVER THE INPUT: true; the input reads as it did. -/
def blockMapsSpec : ChangeSpec := { name := "blockMaps", fn := fun _ => fun
  | [d1, d2] => { results := [.lit (.bool true)], args := [d1, d2] }
  | _ => none }
def blockMapsRow : OpenClaim := { program := "ytbagpckiegpalaa", sum := "5d24a3a5413b92907a33686b1e95c7b400a4700511572da401e9143455e5ecf2", func := "quadrille/quadrillelaw06.BlockMaps", spec := "blockMaps", inPlace := ["slices.overlaps[quadrille/block.run]"], unfollowed := true, recurses := true, apart := false }
def BlockMapsSaid : Prop := blockMapsRow.holds Try.pinned (OpenSpec.ofChange blockMapsSpec)

/-- ITS FALSE NEIGHBOUR: 'it returns false'. Refute it at one input. -/
def blockMapsWrong : ChangeSpec := { name := "blockMaps", fn := fun _ => fun
  | [d1, d2] => { results := [.lit (.bool false)], args := [d1, d2] }
  | _ => none }
def BlockMapsWrongFalsely : Prop := blockMapsRow.holds Try.pinned (OpenSpec.ofChange blockMapsWrong)

/-- 'quadrillelaw06.BlockApart': WHATEVER THE INPUT: true; the input reads as it did. -/
def blockApartSpec : ChangeSpec := { name := "blockApart", fn := fun _ => fun
  | [d1, d2, d3] => { results := [.lit (.bool true)], args := [d1, d2, d3] }
  | _ => none }
def blockApartRow : OpenClaim := { program := "ytbagpckiegpalaa", sum := "5d24a3a5413b92907a33686b1e95c7b400a4700511572da401e9143455e5ecf2", func := "quadrille/quadrillelaw06.BlockApart", spec := "blockApart", inPlace := ["slices.overlaps[quadrille/block.run]"], unfollowed := true, recurses := true, apart := false }
def BlockApartSaid : Prop := blockApartRow.holds Try.pinned (OpenSpec.ofChange blockApartSpec)

/-- ITS FALSE NEIGHBOUR: 'it returns false'. Refute it at one input. -/
def blockApartWrong : ChangeSpec := { name := "blockApart", fn := fun _ => fun
  | [d1, d2, d3] => { results := [.lit (.bool false)], args := [d1, d2, d3] }
  | _ => none }
def BlockApartWrongFalsely : Prop := blockApartRow.holds Try.pinned (OpenSpec.ofChange blockApartWrong)

/-- 'quadrillelaw06.BlockTurned': WHATEVER THE INPUT: true; the input reads as it did. -/
def blockTurnedSpec : ChangeSpec := { name := "blockTurned", fn := fun _ => fun
  | [d1, d2, d3] => { results := [.lit (.bool true)], args := [d1, d2, d3] }
  | _ => none }
def blockTurnedRow : OpenClaim := { program := "ytbagpckiegpalaa", sum := "5d24a3a5413b92907a33686b1e95c7b400a4700511572da401e9143455e5ecf2", func := "quadrille/quadrillelaw06.BlockTurned", spec := "blockTurned", inPlace := ["slices.overlaps[quadrille/block.run]"], unfollowed := true, recurses := true, apart := false }
def BlockTurnedSaid : Prop := blockTurnedRow.holds Try.pinned (OpenSpec.ofChange blockTurnedSpec)

/-- ITS FALSE NEIGHBOUR: 'it returns false'. Refute it at one input. -/
def blockTurnedWrong : ChangeSpec := { name := "blockTurned", fn := fun _ => fun
  | [d1, d2, d3] => { results := [.lit (.bool false)], args := [d1, d2, d3] }
  | _ => none }
def BlockTurnedWrongFalsely : Prop := blockTurnedRow.holds Try.pinned (OpenSpec.ofChange blockTurnedWrong)

/- THE SECOND FORM. 'bulk': how many values and letters a reading holds, each counted each time it is reached (what is shared counts as often as it is met; a slice's spare places count too). A statement '..UptoSaid' is the law's where the arguments, and the package variables that the reading takes, are together of bulk at most 1048576: NARROWER than '..Said'. Prove '..Said' where nothing that the law and all that it calls make is longer than what came in: it says more and counts as full. Else prove '..UptoSaid'. A law counts once. -/
mutual
def uptoBulk {H : Type} : DataW H → Nat
  | .lit (.string bytes) => bytes.length + 1
  | .lit _ => 1
  | .nil => 1
  | .ptr d => uptoBulk d + 1
  | .slice elems spare => uptoBulkAll elems + uptoBulkAll spare + 1
  | .agg parts => uptoBulkAll parts + 1
  | .iface _ d => uptoBulk d + 1
  | .map entries => uptoBulkEntries entries + 1
  | .held _ => 1
def uptoBulkAll {H : Type} : List (DataW H) → Nat
  | [] => 0
  | d :: r => uptoBulk d + uptoBulkAll r
def uptoBulkEntries {H : Type} : List (Lit × DataW H) → Nat
  | [] => 0
  | x :: r => uptoBulkEntry x + uptoBulkEntries r
def uptoBulkEntry {H : Type} : Lit × DataW H → Nat
  | (.string bytes, d) => bytes.length + uptoBulk d + 1
  | (_, d) => uptoBulk d + 1
 end
def uptoSmall : (H : Type) → List (DataW H) → Bool := fun _ ds => decide (uptoBulkAll ds ≤ 1048576)
def OpenSpec.upto (s : _root_.Go.ChangeSpec) : _root_.Go.OpenSpec := { _root_.Go.OpenSpec.ofChange s with cond := some uptoSmall }

/-- 'quadrillelaw06.BlockPlays', WHERE WHAT IT READS IS OF BULK AT MOST 1048576: true; the input reads as it did. -/
def blockPlaysUptoRow : OpenClaim := { program := "ytbagpckiegpalaa", sum := "5d24a3a5413b92907a33686b1e95c7b400a4700511572da401e9143455e5ecf2", func := "quadrille/quadrillelaw06.BlockPlays", spec := "blockPlays", inPlace := ["slices.overlaps[quadrille/block.run]"], unfollowed := true, recurses := true, apart := false, narrowed := true }
def BlockPlaysUptoSaid : Prop := blockPlaysUptoRow.holds Try.pinned (OpenSpec.upto blockPlaysSpec)

/-- 'quadrillelaw06.BlockReads', WHERE WHAT IT READS IS OF BULK AT MOST 1048576: true; the input reads as it did. -/
def blockReadsUptoRow : OpenClaim := { program := "ytbagpckiegpalaa", sum := "5d24a3a5413b92907a33686b1e95c7b400a4700511572da401e9143455e5ecf2", func := "quadrille/quadrillelaw06.BlockReads", spec := "blockReads", inPlace := ["slices.overlaps[quadrille/block.run]"], unfollowed := true, recurses := true, apart := false, narrowed := true }
def BlockReadsUptoSaid : Prop := blockReadsUptoRow.holds Try.pinned (OpenSpec.upto blockReadsSpec)

/-- 'quadrillelaw06.BlockRoots', WHERE WHAT IT READS IS OF BULK AT MOST 1048576: true; the input reads as it did. -/
def blockRootsUptoRow : OpenClaim := { program := "ytbagpckiegpalaa", sum := "5d24a3a5413b92907a33686b1e95c7b400a4700511572da401e9143455e5ecf2", func := "quadrille/quadrillelaw06.BlockRoots", spec := "blockRoots", inPlace := ["slices.overlaps[quadrille/block.run]"], unfollowed := true, recurses := true, apart := false, narrowed := true }
def BlockRootsUptoSaid : Prop := blockRootsUptoRow.holds Try.pinned (OpenSpec.upto blockRootsSpec)

/-- 'quadrillelaw06.BlockMaps', WHERE WHAT IT READS IS OF BULK AT MOST 1048576: true; the input reads as it did. -/
def blockMapsUptoRow : OpenClaim := { program := "ytbagpckiegpalaa", sum := "5d24a3a5413b92907a33686b1e95c7b400a4700511572da401e9143455e5ecf2", func := "quadrille/quadrillelaw06.BlockMaps", spec := "blockMaps", inPlace := ["slices.overlaps[quadrille/block.run]"], unfollowed := true, recurses := true, apart := false, narrowed := true }
def BlockMapsUptoSaid : Prop := blockMapsUptoRow.holds Try.pinned (OpenSpec.upto blockMapsSpec)

/-- 'quadrillelaw06.BlockApart', WHERE WHAT IT READS IS OF BULK AT MOST 1048576: true; the input reads as it did. -/
def blockApartUptoRow : OpenClaim := { program := "ytbagpckiegpalaa", sum := "5d24a3a5413b92907a33686b1e95c7b400a4700511572da401e9143455e5ecf2", func := "quadrille/quadrillelaw06.BlockApart", spec := "blockApart", inPlace := ["slices.overlaps[quadrille/block.run]"], unfollowed := true, recurses := true, apart := false, narrowed := true }
def BlockApartUptoSaid : Prop := blockApartUptoRow.holds Try.pinned (OpenSpec.upto blockApartSpec)

/-- 'quadrillelaw06.BlockTurned', WHERE WHAT IT READS IS OF BULK AT MOST 1048576: true; the input reads as it did. -/
def blockTurnedUptoRow : OpenClaim := { program := "ytbagpckiegpalaa", sum := "5d24a3a5413b92907a33686b1e95c7b400a4700511572da401e9143455e5ecf2", func := "quadrille/quadrillelaw06.BlockTurned", spec := "blockTurned", inPlace := ["slices.overlaps[quadrille/block.run]"], unfollowed := true, recurses := true, apart := false, narrowed := true }
def BlockTurnedUptoSaid : Prop := blockTurnedUptoRow.holds Try.pinned (OpenSpec.upto blockTurnedSpec)

end Rows
end Go.Proofs.Ytbagpckiegpalaa
