/-
  No cell of these rows narrows 'for every input' (looked for: loops, veiled, ifaces, maps, wideKeys, modest, calm, conditions, laid).
  DERIVED. THE GIVEN ROWS OF THIS SEAT. 6 by the template 'for every input the law returns true; each argument reads behind the call as it read before'; 0 by the template 'total and deterministic' (their statements: YtdongghjchnpbaaTotals.lean).
  GIVEN WITH THE SEED: the statements are not yours to turn. If you find one false, say at which input.
  Laid BY PROGRAM, IN A SANDBOX (cutbox-rows.mjs): the forced cells as the released guide's own fill.sh prints them over the translation b4ed168818792dda… (all of the seat's roots in one cut). By AI agents, Wed Nov 11 2026. No macro, syntax, notation, axiom, sorry.
-/
import Derived.Test.YtdongghjchnpbaaChecked
import GoSem.Claim
import GoSem.ClaimJoined
import GoSem.ClaimMapViews
import Derived.JoinedTies
import Derived.KernelRfl
namespace Go.Proofs.Ytdongghjchnpbaa
/- THE CELL 'sum', in the pinned program and in every row, IS THE sha256 OF THE DUMP (.gsa) THAT YtdongghjchnpbaaProg.lean LOADS. Nothing in Lean hashes anything: it is a label: what it is worth is what the hold of that sum in a sandbox is worth. -/
noncomputable def Try.pinned : Pinned := { name := "ytdongghjchnpbaa", sum := "b4ed168818792ddab4dbd5157a6990ccf09f4e5cfbd8dca2ee0e7f029c176adb", checked := Try.checked }
namespace Rows
def none {H : Type} : Left H := { results := [], args := [] }

/-- 'quadrillelaw12.RowsPlays': WHATEVER THE INPUT: true; the input reads as it did. -/
def rowsPlaysSpec : ChangeSpec := { name := "rowsPlays", fn := fun _ => fun
  | [d1, d2, d3, d4] => { results := [.lit (.bool true)], args := [d1, d2, d3, d4] }
  | _ => none }
def rowsPlaysRow : OpenClaim := { program := "ytdongghjchnpbaa", sum := "b4ed168818792ddab4dbd5157a6990ccf09f4e5cfbd8dca2ee0e7f029c176adb", func := "quadrille/quadrillelaw12.RowsPlays", spec := "rowsPlays", unfollowed := true, recurses := true, apart := false }
def RowsPlaysSaid : Prop := rowsPlaysRow.holds Try.pinned (OpenSpec.ofChange rowsPlaysSpec)

/-- ITS FALSE NEIGHBOUR: 'it returns false'. Refute it at one input. -/
def rowsPlaysWrong : ChangeSpec := { name := "rowsPlays", fn := fun _ => fun
  | [d1, d2, d3, d4] => { results := [.lit (.bool false)], args := [d1, d2, d3, d4] }
  | _ => none }
def RowsPlaysWrongFalsely : Prop := rowsPlaysRow.holds Try.pinned (OpenSpec.ofChange rowsPlaysWrong)

/-- 'quadrillelaw15.VictimPlays': WHATEVER THE INPUT: true; the input reads as it did. -/
def victimPlaysSpec : ChangeSpec := { name := "victimPlays", fn := fun _ => fun
  | [d1, d2, d3, d4, d5, d6, d7] => { results := [.lit (.bool true)], args := [d1, d2, d3, d4, d5, d6, d7] }
  | _ => none }
def victimPlaysRow : OpenClaim := { program := "ytdongghjchnpbaa", sum := "b4ed168818792ddab4dbd5157a6990ccf09f4e5cfbd8dca2ee0e7f029c176adb", func := "quadrille/quadrillelaw15.VictimPlays", spec := "victimPlays", unfollowed := true, recurses := true, apart := false }
def VictimPlaysSaid : Prop := victimPlaysRow.holds Try.pinned (OpenSpec.ofChange victimPlaysSpec)

/-- ITS FALSE NEIGHBOUR: 'it returns false'. Refute it at one input. -/
def victimPlaysWrong : ChangeSpec := { name := "victimPlays", fn := fun _ => fun
  | [d1, d2, d3, d4, d5, d6, d7] => { results := [.lit (.bool false)], args := [d1, d2, d3, d4, d5, d6, d7] }
  | _ => none }
def VictimPlaysWrongFalsely : Prop := victimPlaysRow.holds Try.pinned (OpenSpec.ofChange victimPlaysWrong)

/-- 'quadrillelaw15.VictimFair': WHATEVER THE INPUT: true; the input reads as it did. -/
def victimFairSpec : ChangeSpec := { name := "victimFair", fn := fun _ => fun
  | [d1, d2, d3, d4, d5, d6] => { results := [.lit (.bool true)], args := [d1, d2, d3, d4, d5, d6] }
  | _ => none }
def victimFairRow : OpenClaim := { program := "ytdongghjchnpbaa", sum := "b4ed168818792ddab4dbd5157a6990ccf09f4e5cfbd8dca2ee0e7f029c176adb", func := "quadrille/quadrillelaw15.VictimFair", spec := "victimFair", unfollowed := true, recurses := true, apart := false }
def VictimFairSaid : Prop := victimFairRow.holds Try.pinned (OpenSpec.ofChange victimFairSpec)

/-- ITS FALSE NEIGHBOUR: 'it returns false'. Refute it at one input. -/
def victimFairWrong : ChangeSpec := { name := "victimFair", fn := fun _ => fun
  | [d1, d2, d3, d4, d5, d6] => { results := [.lit (.bool false)], args := [d1, d2, d3, d4, d5, d6] }
  | _ => none }
def VictimFairWrongFalsely : Prop := victimFairRow.holds Try.pinned (OpenSpec.ofChange victimFairWrong)

/-- 'quadrillelaw15.VictimFree': WHATEVER THE INPUT: true; the input reads as it did. -/
def victimFreeSpec : ChangeSpec := { name := "victimFree", fn := fun _ => fun
  | [d1, d2, d3, d4, d5] => { results := [.lit (.bool true)], args := [d1, d2, d3, d4, d5] }
  | _ => none }
def victimFreeRow : OpenClaim := { program := "ytdongghjchnpbaa", sum := "b4ed168818792ddab4dbd5157a6990ccf09f4e5cfbd8dca2ee0e7f029c176adb", func := "quadrille/quadrillelaw15.VictimFree", spec := "victimFree", unfollowed := true, recurses := true, apart := false }
def VictimFreeSaid : Prop := victimFreeRow.holds Try.pinned (OpenSpec.ofChange victimFreeSpec)

/-- ITS FALSE NEIGHBOUR: 'it returns false'. Refute it at one input. -/
def victimFreeWrong : ChangeSpec := { name := "victimFree", fn := fun _ => fun
  | [d1, d2, d3, d4, d5] => { results := [.lit (.bool false)], args := [d1, d2, d3, d4, d5] }
  | _ => none }
def VictimFreeWrongFalsely : Prop := victimFreeRow.holds Try.pinned (OpenSpec.ofChange victimFreeWrong)

/-- 'quadrillelaw15.VictimFew': WHATEVER THE INPUT: true; the input reads as it did. -/
def victimFewSpec : ChangeSpec := { name := "victimFew", fn := fun _ => fun
  | [d1, d2, d3, d4, d5, d6] => { results := [.lit (.bool true)], args := [d1, d2, d3, d4, d5, d6] }
  | _ => none }
def victimFewRow : OpenClaim := { program := "ytdongghjchnpbaa", sum := "b4ed168818792ddab4dbd5157a6990ccf09f4e5cfbd8dca2ee0e7f029c176adb", func := "quadrille/quadrillelaw15.VictimFew", spec := "victimFew", unfollowed := true, recurses := true, apart := false }
def VictimFewSaid : Prop := victimFewRow.holds Try.pinned (OpenSpec.ofChange victimFewSpec)

/-- ITS FALSE NEIGHBOUR: 'it returns false'. Refute it at one input. -/
def victimFewWrong : ChangeSpec := { name := "victimFew", fn := fun _ => fun
  | [d1, d2, d3, d4, d5, d6] => { results := [.lit (.bool false)], args := [d1, d2, d3, d4, d5, d6] }
  | _ => none }
def VictimFewWrongFalsely : Prop := victimFewRow.holds Try.pinned (OpenSpec.ofChange victimFewWrong)

/-- 'quadrillelaw15.VictimApart': WHATEVER THE INPUT: true; the input reads as it did. -/
def victimApartSpec : ChangeSpec := { name := "victimApart", fn := fun _ => fun
  | [d1, d2, d3, d4, d5, d6] => { results := [.lit (.bool true)], args := [d1, d2, d3, d4, d5, d6] }
  | _ => none }
def victimApartRow : OpenClaim := { program := "ytdongghjchnpbaa", sum := "b4ed168818792ddab4dbd5157a6990ccf09f4e5cfbd8dca2ee0e7f029c176adb", func := "quadrille/quadrillelaw15.VictimApart", spec := "victimApart", unfollowed := true, recurses := true, apart := false }
def VictimApartSaid : Prop := victimApartRow.holds Try.pinned (OpenSpec.ofChange victimApartSpec)

/-- ITS FALSE NEIGHBOUR: 'it returns false'. Refute it at one input. -/
def victimApartWrong : ChangeSpec := { name := "victimApart", fn := fun _ => fun
  | [d1, d2, d3, d4, d5, d6] => { results := [.lit (.bool false)], args := [d1, d2, d3, d4, d5, d6] }
  | _ => none }
def VictimApartWrongFalsely : Prop := victimApartRow.holds Try.pinned (OpenSpec.ofChange victimApartWrong)

/- THE SECOND FORM. 'bulk': how many values and letters a reading holds, each counted each time it is reached (what is shared counts as often as it is met; a slice's spare places count too). A statement '..UptoSaid' is the law's where the arguments, and the package variables that the reading takes, are together of bulk at most 1048576: NARROWER than '..Said'. Prove '..Said' where nothing that the law and all that it calls make is longer than what came in: it says more and counts as full. Else prove '..UptoSaid'. A law counts once. -/
mutual
def uptoBulk {H : Type} : DataW H → Nat
  | .lit (.string bytes) => bytes.length + 1
  | .lit _ => 1
  | .nil => 1
  | .ptr d => uptoBulk d + 1
  | .slice elems spare => uptoBulkAll elems + uptoBulkAll spare + 1
  | .agg parts => uptoBulkAll parts + 1
  | .iface _ d => uptoBulk d + 1
  | .map entries => uptoBulkEntries entries + 1
  | .held _ => 1
def uptoBulkAll {H : Type} : List (DataW H) → Nat
  | [] => 0
  | d :: r => uptoBulk d + uptoBulkAll r
def uptoBulkEntries {H : Type} : List (Lit × DataW H) → Nat
  | [] => 0
  | x :: r => uptoBulkEntry x + uptoBulkEntries r
def uptoBulkEntry {H : Type} : Lit × DataW H → Nat
  | (.string bytes, d) => bytes.length + uptoBulk d + 1
  | (_, d) => uptoBulk d + 1
 end
def uptoSmall : (H : Type) → List (DataW H) → Bool := fun _ ds => decide (uptoBulkAll ds ≤ 1048576)
def OpenSpec.upto (s : _root_.Go.ChangeSpec) : _root_.Go.OpenSpec := { _root_.Go.OpenSpec.ofChange s with cond := some uptoSmall }

/-- 'quadrillelaw12.RowsPlays', WHERE WHAT IT READS IS OF BULK AT MOST 1048576: true; the input reads as it did. -/
def rowsPlaysUptoRow : OpenClaim := { program := "ytdongghjchnpbaa", sum := "b4ed168818792ddab4dbd5157a6990ccf09f4e5cfbd8dca2ee0e7f029c176adb", func := "quadrille/quadrillelaw12.RowsPlays", spec := "rowsPlays", unfollowed := true, recurses := true, apart := false, narrowed := true }
def RowsPlaysUptoSaid : Prop := rowsPlaysUptoRow.holds Try.pinned (OpenSpec.upto rowsPlaysSpec)

/-- 'quadrillelaw15.VictimPlays', WHERE WHAT IT READS IS OF BULK AT MOST 1048576: true; the input reads as it did. -/
def victimPlaysUptoRow : OpenClaim := { program := "ytdongghjchnpbaa", sum := "b4ed168818792ddab4dbd5157a6990ccf09f4e5cfbd8dca2ee0e7f029c176adb", func := "quadrille/quadrillelaw15.VictimPlays", spec := "victimPlays", unfollowed := true, recurses := true, apart := false, narrowed := true }
def VictimPlaysUptoSaid : Prop := victimPlaysUptoRow.holds Try.pinned (OpenSpec.upto victimPlaysSpec)

/-- 'quadrillelaw15.VictimFair', WHERE WHAT IT READS IS OF BULK AT MOST 1048576: true; the input reads as it did. -/
def victimFairUptoRow : OpenClaim := { program := "ytdongghjchnpbaa", sum := "b4ed168818792ddab4dbd5157a6990ccf09f4e5cfbd8dca2ee0e7f029c176adb", func := "quadrille/quadrillelaw15.VictimFair", spec := "victimFair", unfollowed := true, recurses := true, apart := false, narrowed := true }
def VictimFairUptoSaid : Prop := victimFairUptoRow.holds Try.pinned (OpenSpec.upto victimFairSpec)

/-- 'quadrillelaw15.VictimFree', WHERE WHAT IT READS IS OF BULK AT MOST 1048576: true; the input reads as it did. -/
def victimFreeUptoRow : OpenClaim := { program := "ytdongghjchnpbaa", sum := "b4ed168818792ddab4dbd5157a6990ccf09f4e5cfbd8dca2ee0e7f029c176adb", func := "quadrille/quadrillelaw15.VictimFree", spec := "victimFree", unfollowed := true, recurses := true, apart := false, narrowed := true }
def VictimFreeUptoSaid : Prop := victimFreeUptoRow.holds Try.pinned (OpenSpec.upto victimFreeSpec)

/-- 'quadrillelaw15.VictimFew', WHERE WHAT IT READS IS OF BULK AT MOST 1048576: true; the input reads as it did. -/
def victimFewUptoRow : OpenClaim := { program := "ytdongghjchnpbaa", sum := "b4ed168818792ddab4dbd5157a6990ccf09f4e5cfbd8dca2ee0e7f029c176adb", func := "quadrille/quadrillelaw15.VictimFew", spec := "victimFew", unfollowed := true, recurses := true, apart := false, narrowed := true }
def VictimFewUptoSaid : Prop := victimFewUptoRow.holds Try.pinned (OpenSpec.upto victimFewSpec)

/-- 'quadrillelaw15.VictimApart', WHERE WHAT IT READS IS OF BULK AT MOST 1048576: true; the input reads as it did. -/
def victimApartUptoRow : OpenClaim := { program := "ytdongghjchnpbaa", sum := "b4ed168818792ddab4dbd5157a6990ccf09f4e5cfbd8dca2ee0e7f029c176adb", func := "quadrille/quadrillelaw15.VictimApart", spec := "victimApart", unfollowed := true, recurses := true, apart := false, narrowed := true }
def VictimApartUptoSaid : Prop := victimApartUptoRow.holds Try.pinned (OpenSpec.upto victimApartSpec)

end Rows
end Go.Proofs.Ytdongghjchnpbaa
