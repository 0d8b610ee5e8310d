/-
  No cell of these rows narrows 'for every input' (looked for: loops, veiled, ifaces, maps, wideKeys, modest, calm, conditions, laid).
  DERIVED. THE GIVEN ROWS OF THIS SEAT. 6 by the template 'for every input the law returns true; each argument reads behind the call as it read before'; 0 by the template 'total and deterministic' (their statements: YtnffmijanikjgaaTotals.lean).
  GIVEN WITH THE SEED: the statements are not yours to turn. If you find one false, say at which input.
  Laid BY PROGRAM, IN A SANDBOX (cutbox-rows.mjs): the forced cells as the released guide's own fill.sh prints them over the translation df735bebb786526b… (all of the seat's roots in one cut). By AI agents, Wed Nov 11 2026. No macro, syntax, notation, axiom, sorry.
-/
import Derived.Test.YtnffmijanikjgaaChecked
import GoSem.Claim
import GoSem.ClaimJoined
import GoSem.ClaimMapViews
import Derived.JoinedTies
import Derived.KernelRfl
namespace Go.Proofs.Ytnffmijanikjgaa
/- THE CELL 'sum', in the pinned program and in every row, IS THE sha256 OF THE DUMP (.gsa) THAT YtnffmijanikjgaaProg.lean LOADS. Nothing in Lean hashes anything: it is a label: what it is worth is what the hold of that sum in a sandbox is worth. -/
noncomputable def Try.pinned : Pinned := { name := "ytnffmijanikjgaa", sum := "df735bebb786526bfff296883e5374a407be7a076b510f433c861e99cf81308a", checked := Try.checked }
namespace Rows
def none {H : Type} : Left H := { results := [], args := [] }

/-- 'quadrillelaw12.RowsPlays': WHATEVER THE INPUT: true; the input reads as it did. -/
def rowsPlaysSpec : ChangeSpec := { name := "rowsPlays", fn := fun _ => fun
  | [d1, d2, d3, d4] => { results := [.lit (.bool true)], args := [d1, d2, d3, d4] }
  | _ => none }
def rowsPlaysRow : OpenClaim := { program := "ytnffmijanikjgaa", sum := "df735bebb786526bfff296883e5374a407be7a076b510f433c861e99cf81308a", func := "quadrille/quadrillelaw12.RowsPlays", spec := "rowsPlays", unfollowed := true, recurses := true, apart := false }
def RowsPlaysSaid : Prop := rowsPlaysRow.holds Try.pinned (OpenSpec.ofChange rowsPlaysSpec)

/-- ITS FALSE NEIGHBOUR: 'it returns false'. Refute it at one input. -/
def rowsPlaysWrong : ChangeSpec := { name := "rowsPlays", fn := fun _ => fun
  | [d1, d2, d3, d4] => { results := [.lit (.bool false)], args := [d1, d2, d3, d4] }
  | _ => none }
def RowsPlaysWrongFalsely : Prop := rowsPlaysRow.holds Try.pinned (OpenSpec.ofChange rowsPlaysWrong)

/-- 'quadrillelaw13.ShufflePlays': WHATEVER THE INPUT: true; the input reads as it did. -/
def shufflePlaysSpec : ChangeSpec := { name := "shufflePlays", fn := fun _ => fun
  | [d1, d2, d3, d4] => { results := [.lit (.bool true)], args := [d1, d2, d3, d4] }
  | _ => none }
def shufflePlaysRow : OpenClaim := { program := "ytnffmijanikjgaa", sum := "df735bebb786526bfff296883e5374a407be7a076b510f433c861e99cf81308a", func := "quadrille/quadrillelaw13.ShufflePlays", spec := "shufflePlays", unfollowed := true, recurses := true, apart := false }
def ShufflePlaysSaid : Prop := shufflePlaysRow.holds Try.pinned (OpenSpec.ofChange shufflePlaysSpec)

/-- ITS FALSE NEIGHBOUR: 'it returns false'. Refute it at one input. -/
def shufflePlaysWrong : ChangeSpec := { name := "shufflePlays", fn := fun _ => fun
  | [d1, d2, d3, d4] => { results := [.lit (.bool false)], args := [d1, d2, d3, d4] }
  | _ => none }
def ShufflePlaysWrongFalsely : Prop := shufflePlaysRow.holds Try.pinned (OpenSpec.ofChange shufflePlaysWrong)

/-- 'quadrillelaw13.ShuffleKeeps': WHATEVER THE INPUT: true; the input reads as it did. -/
def shuffleKeepsSpec : ChangeSpec := { name := "shuffleKeeps", fn := fun _ => fun
  | [d1, d2, d3, d4] => { results := [.lit (.bool true)], args := [d1, d2, d3, d4] }
  | _ => none }
def shuffleKeepsRow : OpenClaim := { program := "ytnffmijanikjgaa", sum := "df735bebb786526bfff296883e5374a407be7a076b510f433c861e99cf81308a", func := "quadrille/quadrillelaw13.ShuffleKeeps", spec := "shuffleKeeps", unfollowed := true, recurses := true, apart := false }
def ShuffleKeepsSaid : Prop := shuffleKeepsRow.holds Try.pinned (OpenSpec.ofChange shuffleKeepsSpec)

/-- ITS FALSE NEIGHBOUR: 'it returns false'. Refute it at one input. -/
def shuffleKeepsWrong : ChangeSpec := { name := "shuffleKeeps", fn := fun _ => fun
  | [d1, d2, d3, d4] => { results := [.lit (.bool false)], args := [d1, d2, d3, d4] }
  | _ => none }
def ShuffleKeepsWrongFalsely : Prop := shuffleKeepsRow.holds Try.pinned (OpenSpec.ofChange shuffleKeepsWrong)

/-- 'quadrillelaw13.ShuffleAgain': WHATEVER THE INPUT: true; the input reads as it did. -/
def shuffleAgainSpec : ChangeSpec := { name := "shuffleAgain", fn := fun _ => fun
  | [d1, d2, d3] => { results := [.lit (.bool true)], args := [d1, d2, d3] }
  | _ => none }
def shuffleAgainRow : OpenClaim := { program := "ytnffmijanikjgaa", sum := "df735bebb786526bfff296883e5374a407be7a076b510f433c861e99cf81308a", func := "quadrille/quadrillelaw13.ShuffleAgain", spec := "shuffleAgain", unfollowed := true, recurses := true, apart := false }
def ShuffleAgainSaid : Prop := shuffleAgainRow.holds Try.pinned (OpenSpec.ofChange shuffleAgainSpec)

/-- ITS FALSE NEIGHBOUR: 'it returns false'. Refute it at one input. -/
def shuffleAgainWrong : ChangeSpec := { name := "shuffleAgain", fn := fun _ => fun
  | [d1, d2, d3] => { results := [.lit (.bool false)], args := [d1, d2, d3] }
  | _ => none }
def ShuffleAgainWrongFalsely : Prop := shuffleAgainRow.holds Try.pinned (OpenSpec.ofChange shuffleAgainWrong)

/-- 'quadrillelaw13.ShuffleMoves': WHATEVER THE INPUT: true; the input reads as it did. -/
def shuffleMovesSpec : ChangeSpec := { name := "shuffleMoves", fn := fun _ => fun
  | [d1, d2, d3, d4] => { results := [.lit (.bool true)], args := [d1, d2, d3, d4] }
  | _ => none }
def shuffleMovesRow : OpenClaim := { program := "ytnffmijanikjgaa", sum := "df735bebb786526bfff296883e5374a407be7a076b510f433c861e99cf81308a", func := "quadrille/quadrillelaw13.ShuffleMoves", spec := "shuffleMoves", unfollowed := true, recurses := true, apart := false }
def ShuffleMovesSaid : Prop := shuffleMovesRow.holds Try.pinned (OpenSpec.ofChange shuffleMovesSpec)

/-- ITS FALSE NEIGHBOUR: 'it returns false'. Refute it at one input. -/
def shuffleMovesWrong : ChangeSpec := { name := "shuffleMoves", fn := fun _ => fun
  | [d1, d2, d3, d4] => { results := [.lit (.bool false)], args := [d1, d2, d3, d4] }
  | _ => none }
def ShuffleMovesWrongFalsely : Prop := shuffleMovesRow.holds Try.pinned (OpenSpec.ofChange shuffleMovesWrong)

/-- 'quadrillelaw13.ShuffleFull': WHATEVER THE INPUT: true; the input reads as it did. -/
def shuffleFullSpec : ChangeSpec := { name := "shuffleFull", fn := fun _ => fun
  | [d1, d2, d3] => { results := [.lit (.bool true)], args := [d1, d2, d3] }
  | _ => none }
def shuffleFullRow : OpenClaim := { program := "ytnffmijanikjgaa", sum := "df735bebb786526bfff296883e5374a407be7a076b510f433c861e99cf81308a", func := "quadrille/quadrillelaw13.ShuffleFull", spec := "shuffleFull", unfollowed := true, recurses := true, apart := false }
def ShuffleFullSaid : Prop := shuffleFullRow.holds Try.pinned (OpenSpec.ofChange shuffleFullSpec)

/-- ITS FALSE NEIGHBOUR: 'it returns false'. Refute it at one input. -/
def shuffleFullWrong : ChangeSpec := { name := "shuffleFull", fn := fun _ => fun
  | [d1, d2, d3] => { results := [.lit (.bool false)], args := [d1, d2, d3] }
  | _ => none }
def ShuffleFullWrongFalsely : Prop := shuffleFullRow.holds Try.pinned (OpenSpec.ofChange shuffleFullWrong)

/- THE SECOND FORM. 'bulk': how many values and letters a reading holds, each counted each time it is reached (what is shared counts as often as it is met; a slice's spare places count too). A statement '..UptoSaid' is the law's where the arguments, and the package variables that the reading takes, are together of bulk at most 1048576: NARROWER than '..Said'. Prove '..Said' where nothing that the law and all that it calls make is longer than what came in: it says more and counts as full. Else prove '..UptoSaid'. A law counts once. -/
mutual
def uptoBulk {H : Type} : DataW H → Nat
  | .lit (.string bytes) => bytes.length + 1
  | .lit _ => 1
  | .nil => 1
  | .ptr d => uptoBulk d + 1
  | .slice elems spare => uptoBulkAll elems + uptoBulkAll spare + 1
  | .agg parts => uptoBulkAll parts + 1
  | .iface _ d => uptoBulk d + 1
  | .map entries => uptoBulkEntries entries + 1
  | .held _ => 1
def uptoBulkAll {H : Type} : List (DataW H) → Nat
  | [] => 0
  | d :: r => uptoBulk d + uptoBulkAll r
def uptoBulkEntries {H : Type} : List (Lit × DataW H) → Nat
  | [] => 0
  | x :: r => uptoBulkEntry x + uptoBulkEntries r
def uptoBulkEntry {H : Type} : Lit × DataW H → Nat
  | (.string bytes, d) => bytes.length + uptoBulk d + 1
  | (_, d) => uptoBulk d + 1
 end
def uptoSmall : (H : Type) → List (DataW H) → Bool := fun _ ds => decide (uptoBulkAll ds ≤ 1048576)
def OpenSpec.upto (s : _root_.Go.ChangeSpec) : _root_.Go.OpenSpec := { _root_.Go.OpenSpec.ofChange s with cond := some uptoSmall }

/-- 'quadrillelaw12.RowsPlays', WHERE WHAT IT READS IS OF BULK AT MOST 1048576: true; the input reads as it did. -/
def rowsPlaysUptoRow : OpenClaim := { program := "ytnffmijanikjgaa", sum := "df735bebb786526bfff296883e5374a407be7a076b510f433c861e99cf81308a", func := "quadrille/quadrillelaw12.RowsPlays", spec := "rowsPlays", unfollowed := true, recurses := true, apart := false, narrowed := true }
def RowsPlaysUptoSaid : Prop := rowsPlaysUptoRow.holds Try.pinned (OpenSpec.upto rowsPlaysSpec)

/-- 'quadrillelaw13.ShufflePlays', WHERE WHAT IT READS IS OF BULK AT MOST 1048576: true; the input reads as it did. -/
def shufflePlaysUptoRow : OpenClaim := { program := "ytnffmijanikjgaa", sum := "df735bebb786526bfff296883e5374a407be7a076b510f433c861e99cf81308a", func := "quadrille/quadrillelaw13.ShufflePlays", spec := "shufflePlays", unfollowed := true, recurses := true, apart := false, narrowed := true }
def ShufflePlaysUptoSaid : Prop := shufflePlaysUptoRow.holds Try.pinned (OpenSpec.upto shufflePlaysSpec)

/-- 'quadrillelaw13.ShuffleKeeps', WHERE WHAT IT READS IS OF BULK AT MOST 1048576: true; the input reads as it did. -/
def shuffleKeepsUptoRow : OpenClaim := { program := "ytnffmijanikjgaa", sum := "df735bebb786526bfff296883e5374a407be7a076b510f433c861e99cf81308a", func := "quadrille/quadrillelaw13.ShuffleKeeps", spec := "shuffleKeeps", unfollowed := true, recurses := true, apart := false, narrowed := true }
def ShuffleKeepsUptoSaid : Prop := shuffleKeepsUptoRow.holds Try.pinned (OpenSpec.upto shuffleKeepsSpec)

/-- 'quadrillelaw13.ShuffleAgain', WHERE WHAT IT READS IS OF BULK AT MOST 1048576: true; the input reads as it did. -/
def shuffleAgainUptoRow : OpenClaim := { program := "ytnffmijanikjgaa", sum := "df735bebb786526bfff296883e5374a407be7a076b510f433c861e99cf81308a", func := "quadrille/quadrillelaw13.ShuffleAgain", spec := "shuffleAgain", unfollowed := true, recurses := true, apart := false, narrowed := true }
def ShuffleAgainUptoSaid : Prop := shuffleAgainUptoRow.holds Try.pinned (OpenSpec.upto shuffleAgainSpec)

/-- 'quadrillelaw13.ShuffleMoves', WHERE WHAT IT READS IS OF BULK AT MOST 1048576: true; the input reads as it did. -/
def shuffleMovesUptoRow : OpenClaim := { program := "ytnffmijanikjgaa", sum := "df735bebb786526bfff296883e5374a407be7a076b510f433c861e99cf81308a", func := "quadrille/quadrillelaw13.ShuffleMoves", spec := "shuffleMoves", unfollowed := true, recurses := true, apart := false, narrowed := true }
def ShuffleMovesUptoSaid : Prop := shuffleMovesUptoRow.holds Try.pinned (OpenSpec.upto shuffleMovesSpec)

/-- 'quadrillelaw13.ShuffleFull', WHERE WHAT IT READS IS OF BULK AT MOST 1048576: true; the input reads as it did. -/
def shuffleFullUptoRow : OpenClaim := { program := "ytnffmijanikjgaa", sum := "df735bebb786526bfff296883e5374a407be7a076b510f433c861e99cf81308a", func := "quadrille/quadrillelaw13.ShuffleFull", spec := "shuffleFull", unfollowed := true, recurses := true, apart := false, narrowed := true }
def ShuffleFullUptoSaid : Prop := shuffleFullUptoRow.holds Try.pinned (OpenSpec.upto shuffleFullSpec)

end Rows
end Go.Proofs.Ytnffmijanikjgaa
