/-
  No cell of these rows narrows 'for every input' (looked for: loops, veiled, ifaces, maps, wideKeys, modest, calm, conditions, laid).
  DERIVED. THE GIVEN ROWS OF THIS SEAT. 7 by the template 'for every input the law returns true; each argument reads behind the call as it read before'; 0 by the template 'total and deterministic' (their statements: YtlobnipeplnodaaTotals.lean).
  GIVEN WITH THE SEED: the statements are not yours to turn. If you find one false, say at which input.
  Laid BY PROGRAM, IN A SANDBOX (cutbox-rows.mjs): the forced cells as the released guide's own fill.sh prints them over the translation 803e1f2a701baa6f… (all of the seat's roots in one cut). By AI agents, Wed Nov 11 2026. No macro, syntax, notation, axiom, sorry.
-/
import Derived.Test.YtlobnipeplnodaaChecked
import GoSem.Claim
import GoSem.ClaimJoined
import GoSem.ClaimMapViews
import Derived.JoinedTies
import Derived.KernelRfl
namespace Go.Proofs.Ytlobnipeplnodaa
/- THE CELL 'sum', in the pinned program and in every row, IS THE sha256 OF THE DUMP (.gsa) THAT YtlobnipeplnodaaProg.lean LOADS. Nothing in Lean hashes anything: it is a label: what it is worth is what the hold of that sum in a sandbox is worth. -/
noncomputable def Try.pinned : Pinned := { name := "ytlobnipeplnodaa", sum := "803e1f2a701baa6f08e0e505dd26a80005a8101f77fdc836483d089ea7cdab9c", checked := Try.checked }
namespace Rows
def none {H : Type} : Left H := { results := [], args := [] }

/-- 'quadrillelaw12.RowsPlays': WHATEVER THE INPUT: true; the input reads as it did. -/
def rowsPlaysSpec : ChangeSpec := { name := "rowsPlays", fn := fun _ => fun
  | [d1, d2, d3, d4] => { results := [.lit (.bool true)], args := [d1, d2, d3, d4] }
  | _ => none }
def rowsPlaysRow : OpenClaim := { program := "ytlobnipeplnodaa", sum := "803e1f2a701baa6f08e0e505dd26a80005a8101f77fdc836483d089ea7cdab9c", func := "quadrille/quadrillelaw12.RowsPlays", spec := "rowsPlays", unfollowed := true, recurses := true, plainKeys := false, apart := false }
def RowsPlaysSaid : Prop := rowsPlaysRow.holds Try.pinned (OpenSpec.ofChange rowsPlaysSpec)

/-- ITS FALSE NEIGHBOUR: 'it returns false'. Refute it at one input. -/
def rowsPlaysWrong : ChangeSpec := { name := "rowsPlays", fn := fun _ => fun
  | [d1, d2, d3, d4] => { results := [.lit (.bool false)], args := [d1, d2, d3, d4] }
  | _ => none }
def RowsPlaysWrongFalsely : Prop := rowsPlaysRow.holds Try.pinned (OpenSpec.ofChange rowsPlaysWrong)

/-- 'quadrillelaw12.RowsApart': WHATEVER THE INPUT: true; the input reads as it did. -/
def rowsApartSpec : ChangeSpec := { name := "rowsApart", fn := fun _ => fun
  | [d1, d2, d3, d4] => { results := [.lit (.bool true)], args := [d1, d2, d3, d4] }
  | _ => none }
def rowsApartRow : OpenClaim := { program := "ytlobnipeplnodaa", sum := "803e1f2a701baa6f08e0e505dd26a80005a8101f77fdc836483d089ea7cdab9c", func := "quadrille/quadrillelaw12.RowsApart", spec := "rowsApart", unfollowed := true, recurses := true, plainKeys := false, apart := false }
def RowsApartSaid : Prop := rowsApartRow.holds Try.pinned (OpenSpec.ofChange rowsApartSpec)

/-- ITS FALSE NEIGHBOUR: 'it returns false'. Refute it at one input. -/
def rowsApartWrong : ChangeSpec := { name := "rowsApart", fn := fun _ => fun
  | [d1, d2, d3, d4] => { results := [.lit (.bool false)], args := [d1, d2, d3, d4] }
  | _ => none }
def RowsApartWrongFalsely : Prop := rowsApartRow.holds Try.pinned (OpenSpec.ofChange rowsApartWrong)

/-- 'quadrillelaw12.RowsRound': WHATEVER THE INPUT: true; the input reads as it did. -/
def rowsRoundSpec : ChangeSpec := { name := "rowsRound", fn := fun _ => fun
  | [d1, d2, d3, d4, d5] => { results := [.lit (.bool true)], args := [d1, d2, d3, d4, d5] }
  | _ => none }
def rowsRoundRow : OpenClaim := { program := "ytlobnipeplnodaa", sum := "803e1f2a701baa6f08e0e505dd26a80005a8101f77fdc836483d089ea7cdab9c", func := "quadrille/quadrillelaw12.RowsRound", spec := "rowsRound", unfollowed := true, recurses := true, plainKeys := false, apart := false }
def RowsRoundSaid : Prop := rowsRoundRow.holds Try.pinned (OpenSpec.ofChange rowsRoundSpec)

/-- ITS FALSE NEIGHBOUR: 'it returns false'. Refute it at one input. -/
def rowsRoundWrong : ChangeSpec := { name := "rowsRound", fn := fun _ => fun
  | [d1, d2, d3, d4, d5] => { results := [.lit (.bool false)], args := [d1, d2, d3, d4, d5] }
  | _ => none }
def RowsRoundWrongFalsely : Prop := rowsRoundRow.holds Try.pinned (OpenSpec.ofChange rowsRoundWrong)

/-- 'quadrillelaw12.RowsFull': WHATEVER THE INPUT: true; the input reads as it did. -/
def rowsFullSpec : ChangeSpec := { name := "rowsFull", fn := fun _ => fun
  | [d1, d2, d3, d4, d5] => { results := [.lit (.bool true)], args := [d1, d2, d3, d4, d5] }
  | _ => none }
def rowsFullRow : OpenClaim := { program := "ytlobnipeplnodaa", sum := "803e1f2a701baa6f08e0e505dd26a80005a8101f77fdc836483d089ea7cdab9c", func := "quadrille/quadrillelaw12.RowsFull", spec := "rowsFull", unfollowed := true, recurses := true, plainKeys := false, apart := false }
def RowsFullSaid : Prop := rowsFullRow.holds Try.pinned (OpenSpec.ofChange rowsFullSpec)

/-- ITS FALSE NEIGHBOUR: 'it returns false'. Refute it at one input. -/
def rowsFullWrong : ChangeSpec := { name := "rowsFull", fn := fun _ => fun
  | [d1, d2, d3, d4, d5] => { results := [.lit (.bool false)], args := [d1, d2, d3, d4, d5] }
  | _ => none }
def RowsFullWrongFalsely : Prop := rowsFullRow.holds Try.pinned (OpenSpec.ofChange rowsFullWrong)

/-- 'quadrillelaw12.RowsBack': WHATEVER THE INPUT: true; the input reads as it did. -/
def rowsBackSpec : ChangeSpec := { name := "rowsBack", fn := fun _ => fun
  | [d1, d2, d3, d4, d5] => { results := [.lit (.bool true)], args := [d1, d2, d3, d4, d5] }
  | _ => none }
def rowsBackRow : OpenClaim := { program := "ytlobnipeplnodaa", sum := "803e1f2a701baa6f08e0e505dd26a80005a8101f77fdc836483d089ea7cdab9c", func := "quadrille/quadrillelaw12.RowsBack", spec := "rowsBack", unfollowed := true, recurses := true, plainKeys := false, apart := false }
def RowsBackSaid : Prop := rowsBackRow.holds Try.pinned (OpenSpec.ofChange rowsBackSpec)

/-- ITS FALSE NEIGHBOUR: 'it returns false'. Refute it at one input. -/
def rowsBackWrong : ChangeSpec := { name := "rowsBack", fn := fun _ => fun
  | [d1, d2, d3, d4, d5] => { results := [.lit (.bool false)], args := [d1, d2, d3, d4, d5] }
  | _ => none }
def RowsBackWrongFalsely : Prop := rowsBackRow.holds Try.pinned (OpenSpec.ofChange rowsBackWrong)

/-- 'quadrillelaw12.RowsFirst': WHATEVER THE INPUT: true; the input reads as it did. -/
def rowsFirstSpec : ChangeSpec := { name := "rowsFirst", fn := fun _ => fun
  | [d1, d2, d3, d4, d5] => { results := [.lit (.bool true)], args := [d1, d2, d3, d4, d5] }
  | _ => none }
def rowsFirstRow : OpenClaim := { program := "ytlobnipeplnodaa", sum := "803e1f2a701baa6f08e0e505dd26a80005a8101f77fdc836483d089ea7cdab9c", func := "quadrille/quadrillelaw12.RowsFirst", spec := "rowsFirst", unfollowed := true, recurses := true, plainKeys := false, apart := false }
def RowsFirstSaid : Prop := rowsFirstRow.holds Try.pinned (OpenSpec.ofChange rowsFirstSpec)

/-- ITS FALSE NEIGHBOUR: 'it returns false'. Refute it at one input. -/
def rowsFirstWrong : ChangeSpec := { name := "rowsFirst", fn := fun _ => fun
  | [d1, d2, d3, d4, d5] => { results := [.lit (.bool false)], args := [d1, d2, d3, d4, d5] }
  | _ => none }
def RowsFirstWrongFalsely : Prop := rowsFirstRow.holds Try.pinned (OpenSpec.ofChange rowsFirstWrong)

/-- 'quadrillelaw12.RowsFill': WHATEVER THE INPUT: true; the input reads as it did. -/
def rowsFillSpec : ChangeSpec := { name := "rowsFill", fn := fun _ => fun
  | [d1, d2, d3, d4, d5] => { results := [.lit (.bool true)], args := [d1, d2, d3, d4, d5] }
  | _ => none }
def rowsFillRow : OpenClaim := { program := "ytlobnipeplnodaa", sum := "803e1f2a701baa6f08e0e505dd26a80005a8101f77fdc836483d089ea7cdab9c", func := "quadrille/quadrillelaw12.RowsFill", spec := "rowsFill", unfollowed := true, recurses := true, plainKeys := false, apart := false }
def RowsFillSaid : Prop := rowsFillRow.holds Try.pinned (OpenSpec.ofChange rowsFillSpec)

/-- ITS FALSE NEIGHBOUR: 'it returns false'. Refute it at one input. -/
def rowsFillWrong : ChangeSpec := { name := "rowsFill", fn := fun _ => fun
  | [d1, d2, d3, d4, d5] => { results := [.lit (.bool false)], args := [d1, d2, d3, d4, d5] }
  | _ => none }
def RowsFillWrongFalsely : Prop := rowsFillRow.holds Try.pinned (OpenSpec.ofChange rowsFillWrong)

/- THE SECOND FORM. 'bulk': how many values and letters a reading holds, each counted each time it is reached (what is shared counts as often as it is met; a slice's spare places count too). A statement '..UptoSaid' is the law's where the arguments, and the package variables that the reading takes, are together of bulk at most 1048576: NARROWER than '..Said'. Prove '..Said' where nothing that the law and all that it calls make is longer than what came in: it says more and counts as full. Else prove '..UptoSaid'. A law counts once. -/
mutual
def uptoBulk {H : Type} : DataW H → Nat
  | .lit (.string bytes) => bytes.length + 1
  | .lit _ => 1
  | .nil => 1
  | .ptr d => uptoBulk d + 1
  | .slice elems spare => uptoBulkAll elems + uptoBulkAll spare + 1
  | .agg parts => uptoBulkAll parts + 1
  | .iface _ d => uptoBulk d + 1
  | .map entries => uptoBulkEntries entries + 1
  | .held _ => 1
def uptoBulkAll {H : Type} : List (DataW H) → Nat
  | [] => 0
  | d :: r => uptoBulk d + uptoBulkAll r
def uptoBulkEntries {H : Type} : List (Lit × DataW H) → Nat
  | [] => 0
  | x :: r => uptoBulkEntry x + uptoBulkEntries r
def uptoBulkEntry {H : Type} : Lit × DataW H → Nat
  | (.string bytes, d) => bytes.length + uptoBulk d + 1
  | (_, d) => uptoBulk d + 1
 end
def uptoSmall : (H : Type) → List (DataW H) → Bool := fun _ ds => decide (uptoBulkAll ds ≤ 1048576)
def OpenSpec.upto (s : _root_.Go.ChangeSpec) : _root_.Go.OpenSpec := { _root_.Go.OpenSpec.ofChange s with cond := some uptoSmall }

/-- 'quadrillelaw12.RowsPlays', WHERE WHAT IT READS IS OF BULK AT MOST 1048576: true; the input reads as it did. -/
def rowsPlaysUptoRow : OpenClaim := { program := "ytlobnipeplnodaa", sum := "803e1f2a701baa6f08e0e505dd26a80005a8101f77fdc836483d089ea7cdab9c", func := "quadrille/quadrillelaw12.RowsPlays", spec := "rowsPlays", unfollowed := true, recurses := true, plainKeys := false, apart := false, narrowed := true }
def RowsPlaysUptoSaid : Prop := rowsPlaysUptoRow.holds Try.pinned (OpenSpec.upto rowsPlaysSpec)

/-- 'quadrillelaw12.RowsApart', WHERE WHAT IT READS IS OF BULK AT MOST 1048576: true; the input reads as it did. -/
def rowsApartUptoRow : OpenClaim := { program := "ytlobnipeplnodaa", sum := "803e1f2a701baa6f08e0e505dd26a80005a8101f77fdc836483d089ea7cdab9c", func := "quadrille/quadrillelaw12.RowsApart", spec := "rowsApart", unfollowed := true, recurses := true, plainKeys := false, apart := false, narrowed := true }
def RowsApartUptoSaid : Prop := rowsApartUptoRow.holds Try.pinned (OpenSpec.upto rowsApartSpec)

/-- 'quadrillelaw12.RowsRound', WHERE WHAT IT READS IS OF BULK AT MOST 1048576: true; the input reads as it did. -/
def rowsRoundUptoRow : OpenClaim := { program := "ytlobnipeplnodaa", sum := "803e1f2a701baa6f08e0e505dd26a80005a8101f77fdc836483d089ea7cdab9c", func := "quadrille/quadrillelaw12.RowsRound", spec := "rowsRound", unfollowed := true, recurses := true, plainKeys := false, apart := false, narrowed := true }
def RowsRoundUptoSaid : Prop := rowsRoundUptoRow.holds Try.pinned (OpenSpec.upto rowsRoundSpec)

/-- 'quadrillelaw12.RowsFull', WHERE WHAT IT READS IS OF BULK AT MOST 1048576: true; the input reads as it did. -/
def rowsFullUptoRow : OpenClaim := { program := "ytlobnipeplnodaa", sum := "803e1f2a701baa6f08e0e505dd26a80005a8101f77fdc836483d089ea7cdab9c", func := "quadrille/quadrillelaw12.RowsFull", spec := "rowsFull", unfollowed := true, recurses := true, plainKeys := false, apart := false, narrowed := true }
def RowsFullUptoSaid : Prop := rowsFullUptoRow.holds Try.pinned (OpenSpec.upto rowsFullSpec)

/-- 'quadrillelaw12.RowsBack', WHERE WHAT IT READS IS OF BULK AT MOST 1048576: true; the input reads as it did. -/
def rowsBackUptoRow : OpenClaim := { program := "ytlobnipeplnodaa", sum := "803e1f2a701baa6f08e0e505dd26a80005a8101f77fdc836483d089ea7cdab9c", func := "quadrille/quadrillelaw12.RowsBack", spec := "rowsBack", unfollowed := true, recurses := true, plainKeys := false, apart := false, narrowed := true }
def RowsBackUptoSaid : Prop := rowsBackUptoRow.holds Try.pinned (OpenSpec.upto rowsBackSpec)

/-- 'quadrillelaw12.RowsFirst', WHERE WHAT IT READS IS OF BULK AT MOST 1048576: true; the input reads as it did. -/
def rowsFirstUptoRow : OpenClaim := { program := "ytlobnipeplnodaa", sum := "803e1f2a701baa6f08e0e505dd26a80005a8101f77fdc836483d089ea7cdab9c", func := "quadrille/quadrillelaw12.RowsFirst", spec := "rowsFirst", unfollowed := true, recurses := true, plainKeys := false, apart := false, narrowed := true }
def RowsFirstUptoSaid : Prop := rowsFirstUptoRow.holds Try.pinned (OpenSpec.upto rowsFirstSpec)

/-- 'quadrillelaw12.RowsFill', WHERE WHAT IT READS IS OF BULK AT MOST 1048576: true; the input reads as it did. -/
def rowsFillUptoRow : OpenClaim := { program := "ytlobnipeplnodaa", sum := "803e1f2a701baa6f08e0e505dd26a80005a8101f77fdc836483d089ea7cdab9c", func := "quadrille/quadrillelaw12.RowsFill", spec := "rowsFill", unfollowed := true, recurses := true, plainKeys := false, apart := false, narrowed := true }
def RowsFillUptoSaid : Prop := rowsFillUptoRow.holds Try.pinned (OpenSpec.upto rowsFillSpec)

end Rows
end Go.Proofs.Ytlobnipeplnodaa
