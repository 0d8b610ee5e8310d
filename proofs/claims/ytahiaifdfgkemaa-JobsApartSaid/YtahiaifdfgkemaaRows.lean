/-
  No cell of these rows narrows 'for every input' (looked for: loops, veiled, ifaces, maps, wideKeys, modest, calm, conditions, laid).
  DERIVED. THE GIVEN ROWS OF THIS SEAT. 3 by the template 'for every input the law returns true; each argument reads behind the call as it read before'; 0 by the template 'total and deterministic' (their statements: YtahiaifdfgkemaaTotals.lean).
  GIVEN WITH THE SEED: the statements are not yours to turn. If you find one false, say at which input.
  Laid BY PROGRAM, IN A SANDBOX (cutbox-rows.mjs): the forced cells as the released guide's own fill.sh prints them over the translation aa77b1aa6054896e… (all of the seat's roots in one cut). By AI agents, Wed Nov 11 2026. No macro, syntax, notation, axiom, sorry.
-/
import Derived.Test.YtahiaifdfgkemaaChecked
import GoSem.Claim
import GoSem.ClaimJoined
import GoSem.ClaimMapViews
import Derived.JoinedTies
import Derived.KernelRfl
namespace Go.Proofs.Ytahiaifdfgkemaa
/- THE CELL 'sum', in the pinned program and in every row, IS THE sha256 OF THE DUMP (.gsa) THAT YtahiaifdfgkemaaProg.lean LOADS. Nothing in Lean hashes anything: it is a label: what it is worth is what the hold of that sum in a sandbox is worth. -/
noncomputable def Try.pinned : Pinned := { name := "ytahiaifdfgkemaa", sum := "aa77b1aa6054896e5ff79f8c56f07e82905730f8915530cbadd741b95fc5e677", checked := Try.checked }
namespace Rows
def none {H : Type} : Left H := { results := [], args := [] }

/-- 'quadrillelaw16.JobsOnce': WHATEVER THE INPUT: true; the input reads as it did. -/
def jobsOnceSpec : ChangeSpec := { name := "jobsOnce", fn := fun _ => fun
  | [d1, d2] => { results := [.lit (.bool true)], args := [d1, d2] }
  | _ => none }
def jobsOnceRow : OpenClaim := { program := "ytahiaifdfgkemaa", sum := "aa77b1aa6054896e5ff79f8c56f07e82905730f8915530cbadd741b95fc5e677", func := "quadrille/quadrillelaw16.JobsOnce", spec := "jobsOnce", unfollowed := true, recurses := true, apart := false }
def JobsOnceSaid : Prop := jobsOnceRow.holds Try.pinned (OpenSpec.ofChange jobsOnceSpec)

/-- ITS FALSE NEIGHBOUR: 'it returns false'. Refute it at one input. -/
def jobsOnceWrong : ChangeSpec := { name := "jobsOnce", fn := fun _ => fun
  | [d1, d2] => { results := [.lit (.bool false)], args := [d1, d2] }
  | _ => none }
def JobsOnceWrongFalsely : Prop := jobsOnceRow.holds Try.pinned (OpenSpec.ofChange jobsOnceWrong)

/-- 'quadrillelaw16.JobsRefused': WHATEVER THE INPUT: true; the input reads as it did. -/
def jobsRefusedSpec : ChangeSpec := { name := "jobsRefused", fn := fun _ => fun
  | [d1, d2] => { results := [.lit (.bool true)], args := [d1, d2] }
  | _ => none }
def jobsRefusedRow : OpenClaim := { program := "ytahiaifdfgkemaa", sum := "aa77b1aa6054896e5ff79f8c56f07e82905730f8915530cbadd741b95fc5e677", func := "quadrille/quadrillelaw16.JobsRefused", spec := "jobsRefused", unfollowed := true, recurses := true, apart := false }
def JobsRefusedSaid : Prop := jobsRefusedRow.holds Try.pinned (OpenSpec.ofChange jobsRefusedSpec)

/-- ITS FALSE NEIGHBOUR: 'it returns false'. Refute it at one input. -/
def jobsRefusedWrong : ChangeSpec := { name := "jobsRefused", fn := fun _ => fun
  | [d1, d2] => { results := [.lit (.bool false)], args := [d1, d2] }
  | _ => none }
def JobsRefusedWrongFalsely : Prop := jobsRefusedRow.holds Try.pinned (OpenSpec.ofChange jobsRefusedWrong)

/-- 'quadrillelaw16.JobsApart': WHATEVER THE INPUT: true; the input reads as it did. -/
def jobsApartSpec : ChangeSpec := { name := "jobsApart", fn := fun _ => fun
  | [d1, d2] => { results := [.lit (.bool true)], args := [d1, d2] }
  | _ => none }
def jobsApartRow : OpenClaim := { program := "ytahiaifdfgkemaa", sum := "aa77b1aa6054896e5ff79f8c56f07e82905730f8915530cbadd741b95fc5e677", func := "quadrille/quadrillelaw16.JobsApart", spec := "jobsApart", unfollowed := true, recurses := true, apart := false }
def JobsApartSaid : Prop := jobsApartRow.holds Try.pinned (OpenSpec.ofChange jobsApartSpec)

/-- ITS FALSE NEIGHBOUR: 'it returns false'. Refute it at one input. -/
def jobsApartWrong : ChangeSpec := { name := "jobsApart", fn := fun _ => fun
  | [d1, d2] => { results := [.lit (.bool false)], args := [d1, d2] }
  | _ => none }
def JobsApartWrongFalsely : Prop := jobsApartRow.holds Try.pinned (OpenSpec.ofChange jobsApartWrong)

/- THE SECOND FORM. 'bulk': how many values and letters a reading holds, each counted each time it is reached (what is shared counts as often as it is met; a slice's spare places count too). A statement '..UptoSaid' is the law's where the arguments, and the package variables that the reading takes, are together of bulk at most 1048576: NARROWER than '..Said'. Prove '..Said' where nothing that the law and all that it calls make is longer than what came in: it says more and counts as full. Else prove '..UptoSaid'. A law counts once. -/
mutual
def uptoBulk {H : Type} : DataW H → Nat
  | .lit (.string bytes) => bytes.length + 1
  | .lit _ => 1
  | .nil => 1
  | .ptr d => uptoBulk d + 1
  | .slice elems spare => uptoBulkAll elems + uptoBulkAll spare + 1
  | .agg parts => uptoBulkAll parts + 1
  | .iface _ d => uptoBulk d + 1
  | .map entries => uptoBulkEntries entries + 1
  | .held _ => 1
def uptoBulkAll {H : Type} : List (DataW H) → Nat
  | [] => 0
  | d :: r => uptoBulk d + uptoBulkAll r
def uptoBulkEntries {H : Type} : List (Lit × DataW H) → Nat
  | [] => 0
  | x :: r => uptoBulkEntry x + uptoBulkEntries r
def uptoBulkEntry {H : Type} : Lit × DataW H → Nat
  | (.string bytes, d) => bytes.length + uptoBulk d + 1
  | (_, d) => uptoBulk d + 1
 end
def uptoSmall : (H : Type) → List (DataW H) → Bool := fun _ ds => decide (uptoBulkAll ds ≤ 1048576)
def OpenSpec.upto (s : _root_.Go.ChangeSpec) : _root_.Go.OpenSpec := { _root_.Go.OpenSpec.ofChange s with cond := some uptoSmall }

/-- 'quadrillelaw16.JobsOnce', WHERE WHAT IT READS IS OF BULK AT MOST 1048576: true; the input reads as it did. -/
def jobsOnceUptoRow : OpenClaim := { program := "ytahiaifdfgkemaa", sum := "aa77b1aa6054896e5ff79f8c56f07e82905730f8915530cbadd741b95fc5e677", func := "quadrille/quadrillelaw16.JobsOnce", spec := "jobsOnce", unfollowed := true, recurses := true, apart := false, narrowed := true }
def JobsOnceUptoSaid : Prop := jobsOnceUptoRow.holds Try.pinned (OpenSpec.upto jobsOnceSpec)

/-- 'quadrillelaw16.JobsRefused', WHERE WHAT IT READS IS OF BULK AT MOST 1048576: true; the input reads as it did. -/
def jobsRefusedUptoRow : OpenClaim := { program := "ytahiaifdfgkemaa", sum := "aa77b1aa6054896e5ff79f8c56f07e82905730f8915530cbadd741b95fc5e677", func := "quadrille/quadrillelaw16.JobsRefused", spec := "jobsRefused", unfollowed := true, recurses := true, apart := false, narrowed := true }
def JobsRefusedUptoSaid : Prop := jobsRefusedUptoRow.holds Try.pinned (OpenSpec.upto jobsRefusedSpec)

/-- 'quadrillelaw16.JobsApart', WHERE WHAT IT READS IS OF BULK AT MOST 1048576: true; the input reads as it did. -/
def jobsApartUptoRow : OpenClaim := { program := "ytahiaifdfgkemaa", sum := "aa77b1aa6054896e5ff79f8c56f07e82905730f8915530cbadd741b95fc5e677", func := "quadrille/quadrillelaw16.JobsApart", spec := "jobsApart", unfollowed := true, recurses := true, apart := false, narrowed := true }
def JobsApartUptoSaid : Prop := jobsApartUptoRow.holds Try.pinned (OpenSpec.upto jobsApartSpec)

end Rows
end Go.Proofs.Ytahiaifdfgkemaa
