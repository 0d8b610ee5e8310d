/-
  No cell of these rows narrows 'for every input' (looked for: loops, veiled, ifaces, maps, wideKeys, modest, calm, conditions, laid).
  DERIVED. THE GIVEN ROWS OF THIS SEAT. 5 by the template 'for every input the law returns true; each argument reads behind the call as it read before'; 0 by the template 'total and deterministic' (their statements: YtnjfmnombioacaaTotals.lean).
  GIVEN WITH THE SEED: the statements are not yours to turn. If you find one false, say at which input.
  Laid BY PROGRAM, IN A SANDBOX (cutbox-rows.mjs): the forced cells as the released guide's own fill.sh prints them over the translation b71e60e4c3ab8d5b… (all of the seat's roots in one cut). By AI agents, Wed Nov 11 2026. No macro, syntax, notation, axiom, sorry.
-/
import Derived.Test.YtnjfmnombioacaaChecked
import GoSem.Claim
import GoSem.ClaimJoined
import GoSem.ClaimMapViews
import Derived.JoinedTies
import Derived.KernelRfl
namespace Go.Proofs.Ytnjfmnombioacaa
/- THE CELL 'sum', in the pinned program and in every row, IS THE sha256 OF THE DUMP (.gsa) THAT YtnjfmnombioacaaProg.lean LOADS. Nothing in Lean hashes anything: it is a label: what it is worth is what the hold of that sum in a sandbox is worth. -/
noncomputable def Try.pinned : Pinned := { name := "ytnjfmnombioacaa", sum := "b71e60e4c3ab8d5b12216a62e8939e898852322d938b262f5bd8252c673718c3", checked := Try.checked }
namespace Rows
def none {H : Type} : Left H := { results := [], args := [] }

/-- 'quadrillelaw16.JobsOnce': WHATEVER THE INPUT: true; the input reads as it did. -/
def jobsOnceSpec : ChangeSpec := { name := "jobsOnce", fn := fun _ => fun
  | [d1, d2] => { results := [.lit (.bool true)], args := [d1, d2] }
  | _ => none }
def jobsOnceRow : OpenClaim := { program := "ytnjfmnombioacaa", sum := "b71e60e4c3ab8d5b12216a62e8939e898852322d938b262f5bd8252c673718c3", func := "quadrille/quadrillelaw16.JobsOnce", spec := "jobsOnce", unfollowed := true, recurses := true, apart := false }
def JobsOnceSaid : Prop := jobsOnceRow.holds Try.pinned (OpenSpec.ofChange jobsOnceSpec)

/-- ITS FALSE NEIGHBOUR: 'it returns false'. Refute it at one input. -/
def jobsOnceWrong : ChangeSpec := { name := "jobsOnce", fn := fun _ => fun
  | [d1, d2] => { results := [.lit (.bool false)], args := [d1, d2] }
  | _ => none }
def JobsOnceWrongFalsely : Prop := jobsOnceRow.holds Try.pinned (OpenSpec.ofChange jobsOnceWrong)

/-- 'quadrillelaw16.JobsRefused': WHATEVER THE INPUT: true; the input reads as it did. -/
def jobsRefusedSpec : ChangeSpec := { name := "jobsRefused", fn := fun _ => fun
  | [d1, d2] => { results := [.lit (.bool true)], args := [d1, d2] }
  | _ => none }
def jobsRefusedRow : OpenClaim := { program := "ytnjfmnombioacaa", sum := "b71e60e4c3ab8d5b12216a62e8939e898852322d938b262f5bd8252c673718c3", func := "quadrille/quadrillelaw16.JobsRefused", spec := "jobsRefused", unfollowed := true, recurses := true, apart := false }
def JobsRefusedSaid : Prop := jobsRefusedRow.holds Try.pinned (OpenSpec.ofChange jobsRefusedSpec)

/-- ITS FALSE NEIGHBOUR: 'it returns false'. Refute it at one input. -/
def jobsRefusedWrong : ChangeSpec := { name := "jobsRefused", fn := fun _ => fun
  | [d1, d2] => { results := [.lit (.bool false)], args := [d1, d2] }
  | _ => none }
def JobsRefusedWrongFalsely : Prop := jobsRefusedRow.holds Try.pinned (OpenSpec.ofChange jobsRefusedWrong)

/-- 'quadrillelaw16.JobsFull': WHATEVER THE INPUT: true; the input reads as it did. -/
def jobsFullSpec : ChangeSpec := { name := "jobsFull", fn := fun _ => fun
  | [d] => { results := [.lit (.bool true)], args := [d] }
  | _ => none }
def jobsFullRow : OpenClaim := { program := "ytnjfmnombioacaa", sum := "b71e60e4c3ab8d5b12216a62e8939e898852322d938b262f5bd8252c673718c3", func := "quadrille/quadrillelaw16.JobsFull", spec := "jobsFull", unfollowed := true, recurses := true, apart := false }
def JobsFullSaid : Prop := jobsFullRow.holds Try.pinned (OpenSpec.ofChange jobsFullSpec)

/-- ITS FALSE NEIGHBOUR: 'it returns false'. Refute it at one input. -/
def jobsFullWrong : ChangeSpec := { name := "jobsFull", fn := fun _ => fun
  | [d] => { results := [.lit (.bool false)], args := [d] }
  | _ => none }
def JobsFullWrongFalsely : Prop := jobsFullRow.holds Try.pinned (OpenSpec.ofChange jobsFullWrong)

/-- 'quadrillelaw16.JobsApart': WHATEVER THE INPUT: true; the input reads as it did. -/
def jobsApartSpec : ChangeSpec := { name := "jobsApart", fn := fun _ => fun
  | [d1, d2] => { results := [.lit (.bool true)], args := [d1, d2] }
  | _ => none }
def jobsApartRow : OpenClaim := { program := "ytnjfmnombioacaa", sum := "b71e60e4c3ab8d5b12216a62e8939e898852322d938b262f5bd8252c673718c3", func := "quadrille/quadrillelaw16.JobsApart", spec := "jobsApart", unfollowed := true, recurses := true, apart := false }
def JobsApartSaid : Prop := jobsApartRow.holds Try.pinned (OpenSpec.ofChange jobsApartSpec)

/-- ITS FALSE NEIGHBOUR: 'it returns false'. Refute it at one input. -/
def jobsApartWrong : ChangeSpec := { name := "jobsApart", fn := fun _ => fun
  | [d1, d2] => { results := [.lit (.bool false)], args := [d1, d2] }
  | _ => none }
def JobsApartWrongFalsely : Prop := jobsApartRow.holds Try.pinned (OpenSpec.ofChange jobsApartWrong)

/-- 'quadrillelaw16.JobsCredit': WHATEVER THE INPUT: true; the input reads as it did. -/
def jobsCreditSpec : ChangeSpec := { name := "jobsCredit", fn := fun _ => fun
  | [d1, d2, d3] => { results := [.lit (.bool true)], args := [d1, d2, d3] }
  | _ => none }
def jobsCreditRow : OpenClaim := { program := "ytnjfmnombioacaa", sum := "b71e60e4c3ab8d5b12216a62e8939e898852322d938b262f5bd8252c673718c3", func := "quadrille/quadrillelaw16.JobsCredit", spec := "jobsCredit", unfollowed := true, recurses := true, apart := false }
def JobsCreditSaid : Prop := jobsCreditRow.holds Try.pinned (OpenSpec.ofChange jobsCreditSpec)

/-- ITS FALSE NEIGHBOUR: 'it returns false'. Refute it at one input. -/
def jobsCreditWrong : ChangeSpec := { name := "jobsCredit", fn := fun _ => fun
  | [d1, d2, d3] => { results := [.lit (.bool false)], args := [d1, d2, d3] }
  | _ => none }
def JobsCreditWrongFalsely : Prop := jobsCreditRow.holds Try.pinned (OpenSpec.ofChange jobsCreditWrong)

/- THE SECOND FORM. 'bulk': how many values and letters a reading holds, each counted each time it is reached (what is shared counts as often as it is met; a slice's spare places count too). A statement '..UptoSaid' is the law's where the arguments, and the package variables that the reading takes, are together of bulk at most 1048576: NARROWER than '..Said'. Prove '..Said' where nothing that the law and all that it calls make is longer than what came in: it says more and counts as full. Else prove '..UptoSaid'. A law counts once. -/
mutual
def uptoBulk {H : Type} : DataW H → Nat
  | .lit (.string bytes) => bytes.length + 1
  | .lit _ => 1
  | .nil => 1
  | .ptr d => uptoBulk d + 1
  | .slice elems spare => uptoBulkAll elems + uptoBulkAll spare + 1
  | .agg parts => uptoBulkAll parts + 1
  | .iface _ d => uptoBulk d + 1
  | .map entries => uptoBulkEntries entries + 1
  | .held _ => 1
def uptoBulkAll {H : Type} : List (DataW H) → Nat
  | [] => 0
  | d :: r => uptoBulk d + uptoBulkAll r
def uptoBulkEntries {H : Type} : List (Lit × DataW H) → Nat
  | [] => 0
  | x :: r => uptoBulkEntry x + uptoBulkEntries r
def uptoBulkEntry {H : Type} : Lit × DataW H → Nat
  | (.string bytes, d) => bytes.length + uptoBulk d + 1
  | (_, d) => uptoBulk d + 1
 end
def uptoSmall : (H : Type) → List (DataW H) → Bool := fun _ ds => decide (uptoBulkAll ds ≤ 1048576)
def OpenSpec.upto (s : _root_.Go.ChangeSpec) : _root_.Go.OpenSpec := { _root_.Go.OpenSpec.ofChange s with cond := some uptoSmall }

/-- 'quadrillelaw16.JobsOnce', WHERE WHAT IT READS IS OF BULK AT MOST 1048576: true; the input reads as it did. -/
def jobsOnceUptoRow : OpenClaim := { program := "ytnjfmnombioacaa", sum := "b71e60e4c3ab8d5b12216a62e8939e898852322d938b262f5bd8252c673718c3", func := "quadrille/quadrillelaw16.JobsOnce", spec := "jobsOnce", unfollowed := true, recurses := true, apart := false, narrowed := true }
def JobsOnceUptoSaid : Prop := jobsOnceUptoRow.holds Try.pinned (OpenSpec.upto jobsOnceSpec)

/-- 'quadrillelaw16.JobsRefused', WHERE WHAT IT READS IS OF BULK AT MOST 1048576: true; the input reads as it did. -/
def jobsRefusedUptoRow : OpenClaim := { program := "ytnjfmnombioacaa", sum := "b71e60e4c3ab8d5b12216a62e8939e898852322d938b262f5bd8252c673718c3", func := "quadrille/quadrillelaw16.JobsRefused", spec := "jobsRefused", unfollowed := true, recurses := true, apart := false, narrowed := true }
def JobsRefusedUptoSaid : Prop := jobsRefusedUptoRow.holds Try.pinned (OpenSpec.upto jobsRefusedSpec)

/-- 'quadrillelaw16.JobsFull', WHERE WHAT IT READS IS OF BULK AT MOST 1048576: true; the input reads as it did. -/
def jobsFullUptoRow : OpenClaim := { program := "ytnjfmnombioacaa", sum := "b71e60e4c3ab8d5b12216a62e8939e898852322d938b262f5bd8252c673718c3", func := "quadrille/quadrillelaw16.JobsFull", spec := "jobsFull", unfollowed := true, recurses := true, apart := false, narrowed := true }
def JobsFullUptoSaid : Prop := jobsFullUptoRow.holds Try.pinned (OpenSpec.upto jobsFullSpec)

/-- 'quadrillelaw16.JobsApart', WHERE WHAT IT READS IS OF BULK AT MOST 1048576: true; the input reads as it did. -/
def jobsApartUptoRow : OpenClaim := { program := "ytnjfmnombioacaa", sum := "b71e60e4c3ab8d5b12216a62e8939e898852322d938b262f5bd8252c673718c3", func := "quadrille/quadrillelaw16.JobsApart", spec := "jobsApart", unfollowed := true, recurses := true, apart := false, narrowed := true }
def JobsApartUptoSaid : Prop := jobsApartUptoRow.holds Try.pinned (OpenSpec.upto jobsApartSpec)

/-- 'quadrillelaw16.JobsCredit', WHERE WHAT IT READS IS OF BULK AT MOST 1048576: true; the input reads as it did. -/
def jobsCreditUptoRow : OpenClaim := { program := "ytnjfmnombioacaa", sum := "b71e60e4c3ab8d5b12216a62e8939e898852322d938b262f5bd8252c673718c3", func := "quadrille/quadrillelaw16.JobsCredit", spec := "jobsCredit", unfollowed := true, recurses := true, apart := false, narrowed := true }
def JobsCreditUptoSaid : Prop := jobsCreditUptoRow.holds Try.pinned (OpenSpec.upto jobsCreditSpec)

end Rows
end Go.Proofs.Ytnjfmnombioacaa
