/-
  No cell of these rows narrows 'for every input' (looked for: loops, veiled, ifaces, maps, wideKeys, modest, calm, conditions, laid).
  DERIVED. THE GIVEN ROWS OF THIS SEAT. 6 by the template 'for every input the law returns true; each argument reads behind the call as it read before'; 0 by the template 'total and deterministic' (their statements: YtafpgglebjllbaaTotals.lean).
  GIVEN WITH THE SEED: the statements are not yours to turn. If you find one false, say at which input.
  Laid BY PROGRAM, IN A SANDBOX (cutbox-rows.mjs): the forced cells as the released guide's own fill.sh prints them over the translation 2e4d1560b2856cf5… (all of the seat's roots in one cut). By AI agents, Wed Nov 11 2026. No macro, syntax, notation, axiom, sorry.
-/
import Derived.Test.YtafpgglebjllbaaChecked
import GoSem.Claim
import GoSem.ClaimJoined
import GoSem.ClaimMapViews
import Derived.JoinedTies
import Derived.KernelRfl
namespace Go.Proofs.Ytafpgglebjllbaa
/- THE CELL 'sum', in the pinned program and in every row, IS THE sha256 OF THE DUMP (.gsa) THAT YtafpgglebjllbaaProg.lean LOADS. Nothing in Lean hashes anything: it is a label: what it is worth is what the hold of that sum in a sandbox is worth. -/
noncomputable def Try.pinned : Pinned := { name := "ytafpgglebjllbaa", sum := "2e4d1560b2856cf569295b3088a15e6529462cdefec8207d51c1529b9aefce69", checked := Try.checked }
namespace Rows
def none {H : Type} : Left H := { results := [], args := [] }

/-- 'quadrillelaw04.NoteNotes': WHATEVER THE INPUT: true; the input reads as it did. -/
def noteNotesSpec : ChangeSpec := { name := "noteNotes", fn := fun _ => fun
  | [d] => { results := [.lit (.bool true)], args := [d] }
  | _ => none }
def noteNotesRow : OpenClaim := { program := "ytafpgglebjllbaa", sum := "2e4d1560b2856cf569295b3088a15e6529462cdefec8207d51c1529b9aefce69", func := "quadrille/quadrillelaw04.NoteNotes", spec := "noteNotes", unfollowed := true, recurses := true, apart := false }
def NoteNotesSaid : Prop := noteNotesRow.holds Try.pinned (OpenSpec.ofChange noteNotesSpec)

/-- ITS FALSE NEIGHBOUR: 'it returns false'. Refute it at one input. -/
def noteNotesWrong : ChangeSpec := { name := "noteNotes", fn := fun _ => fun
  | [d] => { results := [.lit (.bool false)], args := [d] }
  | _ => none }
def NoteNotesWrongFalsely : Prop := noteNotesRow.holds Try.pinned (OpenSpec.ofChange noteNotesWrong)

/-- 'quadrillelaw04.NotePackets': WHATEVER THE INPUT: true; the input reads as it did. -/
def notePacketsSpec : ChangeSpec := { name := "notePackets", fn := fun _ => fun
  | [d] => { results := [.lit (.bool true)], args := [d] }
  | _ => none }
def notePacketsRow : OpenClaim := { program := "ytafpgglebjllbaa", sum := "2e4d1560b2856cf569295b3088a15e6529462cdefec8207d51c1529b9aefce69", func := "quadrille/quadrillelaw04.NotePackets", spec := "notePackets", unfollowed := true, recurses := true, apart := false }
def NotePacketsSaid : Prop := notePacketsRow.holds Try.pinned (OpenSpec.ofChange notePacketsSpec)

/-- ITS FALSE NEIGHBOUR: 'it returns false'. Refute it at one input. -/
def notePacketsWrong : ChangeSpec := { name := "notePackets", fn := fun _ => fun
  | [d] => { results := [.lit (.bool false)], args := [d] }
  | _ => none }
def NotePacketsWrongFalsely : Prop := notePacketsRow.holds Try.pinned (OpenSpec.ofChange notePacketsWrong)

/-- 'quadrillelaw04.NoteReads': WHATEVER THE INPUT: true; the input reads as it did. -/
def noteReadsSpec : ChangeSpec := { name := "noteReads", fn := fun _ => fun
  | [d] => { results := [.lit (.bool true)], args := [d] }
  | _ => none }
def noteReadsRow : OpenClaim := { program := "ytafpgglebjllbaa", sum := "2e4d1560b2856cf569295b3088a15e6529462cdefec8207d51c1529b9aefce69", func := "quadrille/quadrillelaw04.NoteReads", spec := "noteReads", unfollowed := true, recurses := true, apart := false }
def NoteReadsSaid : Prop := noteReadsRow.holds Try.pinned (OpenSpec.ofChange noteReadsSpec)

/-- ITS FALSE NEIGHBOUR: 'it returns false'. Refute it at one input. -/
def noteReadsWrong : ChangeSpec := { name := "noteReads", fn := fun _ => fun
  | [d] => { results := [.lit (.bool false)], args := [d] }
  | _ => none }
def NoteReadsWrongFalsely : Prop := noteReadsRow.holds Try.pinned (OpenSpec.ofChange noteReadsWrong)

/-- 'quadrillelaw04.NoteBodies': WHATEVER THE INPUT: true; the input reads as it did. -/
def noteBodiesSpec : ChangeSpec := { name := "noteBodies", fn := fun _ => fun
  | [d] => { results := [.lit (.bool true)], args := [d] }
  | _ => none }
def noteBodiesRow : OpenClaim := { program := "ytafpgglebjllbaa", sum := "2e4d1560b2856cf569295b3088a15e6529462cdefec8207d51c1529b9aefce69", func := "quadrille/quadrillelaw04.NoteBodies", spec := "noteBodies", unfollowed := true, recurses := true, apart := false }
def NoteBodiesSaid : Prop := noteBodiesRow.holds Try.pinned (OpenSpec.ofChange noteBodiesSpec)

/-- ITS FALSE NEIGHBOUR: 'it returns false'. Refute it at one input. -/
def noteBodiesWrong : ChangeSpec := { name := "noteBodies", fn := fun _ => fun
  | [d] => { results := [.lit (.bool false)], args := [d] }
  | _ => none }
def NoteBodiesWrongFalsely : Prop := noteBodiesRow.holds Try.pinned (OpenSpec.ofChange noteBodiesWrong)

/-- 'quadrillelaw04.NoteBursts': WHATEVER THE INPUT: true; the input reads as it did. -/
def noteBurstsSpec : ChangeSpec := { name := "noteBursts", fn := fun _ => fun
  | [d1, d2, d3, d4] => { results := [.lit (.bool true)], args := [d1, d2, d3, d4] }
  | _ => none }
def noteBurstsRow : OpenClaim := { program := "ytafpgglebjllbaa", sum := "2e4d1560b2856cf569295b3088a15e6529462cdefec8207d51c1529b9aefce69", func := "quadrille/quadrillelaw04.NoteBursts", spec := "noteBursts", unfollowed := true, recurses := true, apart := false }
def NoteBurstsSaid : Prop := noteBurstsRow.holds Try.pinned (OpenSpec.ofChange noteBurstsSpec)

/-- ITS FALSE NEIGHBOUR: 'it returns false'. Refute it at one input. -/
def noteBurstsWrong : ChangeSpec := { name := "noteBursts", fn := fun _ => fun
  | [d1, d2, d3, d4] => { results := [.lit (.bool false)], args := [d1, d2, d3, d4] }
  | _ => none }
def NoteBurstsWrongFalsely : Prop := noteBurstsRow.holds Try.pinned (OpenSpec.ofChange noteBurstsWrong)

/-- 'quadrillelaw04.NoteApart': WHATEVER THE INPUT: true; the input reads as it did. -/
def noteApartSpec : ChangeSpec := { name := "noteApart", fn := fun _ => fun
  | [d1, d2, d3, d4] => { results := [.lit (.bool true)], args := [d1, d2, d3, d4] }
  | _ => none }
def noteApartRow : OpenClaim := { program := "ytafpgglebjllbaa", sum := "2e4d1560b2856cf569295b3088a15e6529462cdefec8207d51c1529b9aefce69", func := "quadrille/quadrillelaw04.NoteApart", spec := "noteApart", unfollowed := true, recurses := true, apart := false }
def NoteApartSaid : Prop := noteApartRow.holds Try.pinned (OpenSpec.ofChange noteApartSpec)

/-- ITS FALSE NEIGHBOUR: 'it returns false'. Refute it at one input. -/
def noteApartWrong : ChangeSpec := { name := "noteApart", fn := fun _ => fun
  | [d1, d2, d3, d4] => { results := [.lit (.bool false)], args := [d1, d2, d3, d4] }
  | _ => none }
def NoteApartWrongFalsely : Prop := noteApartRow.holds Try.pinned (OpenSpec.ofChange noteApartWrong)

/- THE SECOND FORM. 'bulk': how many values and letters a reading holds, each counted each time it is reached (what is shared counts as often as it is met; a slice's spare places count too). A statement '..UptoSaid' is the law's where the arguments, and the package variables that the reading takes, are together of bulk at most 1048576: NARROWER than '..Said'. Prove '..Said' where nothing that the law and all that it calls make is longer than what came in: it says more and counts as full. Else prove '..UptoSaid'. A law counts once. -/
mutual
def uptoBulk {H : Type} : DataW H → Nat
  | .lit (.string bytes) => bytes.length + 1
  | .lit _ => 1
  | .nil => 1
  | .ptr d => uptoBulk d + 1
  | .slice elems spare => uptoBulkAll elems + uptoBulkAll spare + 1
  | .agg parts => uptoBulkAll parts + 1
  | .iface _ d => uptoBulk d + 1
  | .map entries => uptoBulkEntries entries + 1
  | .held _ => 1
def uptoBulkAll {H : Type} : List (DataW H) → Nat
  | [] => 0
  | d :: r => uptoBulk d + uptoBulkAll r
def uptoBulkEntries {H : Type} : List (Lit × DataW H) → Nat
  | [] => 0
  | x :: r => uptoBulkEntry x + uptoBulkEntries r
def uptoBulkEntry {H : Type} : Lit × DataW H → Nat
  | (.string bytes, d) => bytes.length + uptoBulk d + 1
  | (_, d) => uptoBulk d + 1
 end
def uptoSmall : (H : Type) → List (DataW H) → Bool := fun _ ds => decide (uptoBulkAll ds ≤ 1048576)
def OpenSpec.upto (s : _root_.Go.ChangeSpec) : _root_.Go.OpenSpec := { _root_.Go.OpenSpec.ofChange s with cond := some uptoSmall }

/-- 'quadrillelaw04.NoteNotes', WHERE WHAT IT READS IS OF BULK AT MOST 1048576: true; the input reads as it did. -/
def noteNotesUptoRow : OpenClaim := { program := "ytafpgglebjllbaa", sum := "2e4d1560b2856cf569295b3088a15e6529462cdefec8207d51c1529b9aefce69", func := "quadrille/quadrillelaw04.NoteNotes", spec := "noteNotes", unfollowed := true, recurses := true, apart := false, narrowed := true }
def NoteNotesUptoSaid : Prop := noteNotesUptoRow.holds Try.pinned (OpenSpec.upto noteNotesSpec)

/-- 'quadrillelaw04.NotePackets', WHERE WHAT IT READS IS OF BULK AT MOST 1048576: true; the input reads as it did. -/
def notePacketsUptoRow : OpenClaim := { program := "ytafpgglebjllbaa", sum := "2e4d1560b2856cf569295b3088a15e6529462cdefec8207d51c1529b9aefce69", func := "quadrille/quadrillelaw04.NotePackets", spec := "notePackets", unfollowed := true, recurses := true, apart := false, narrowed := true }
def NotePacketsUptoSaid : Prop := notePacketsUptoRow.holds Try.pinned (OpenSpec.upto notePacketsSpec)

/-- 'quadrillelaw04.NoteReads', WHERE WHAT IT READS IS OF BULK AT MOST 1048576: true; the input reads as it did. -/
def noteReadsUptoRow : OpenClaim := { program := "ytafpgglebjllbaa", sum := "2e4d1560b2856cf569295b3088a15e6529462cdefec8207d51c1529b9aefce69", func := "quadrille/quadrillelaw04.NoteReads", spec := "noteReads", unfollowed := true, recurses := true, apart := false, narrowed := true }
def NoteReadsUptoSaid : Prop := noteReadsUptoRow.holds Try.pinned (OpenSpec.upto noteReadsSpec)

/-- 'quadrillelaw04.NoteBodies', WHERE WHAT IT READS IS OF BULK AT MOST 1048576: true; the input reads as it did. -/
def noteBodiesUptoRow : OpenClaim := { program := "ytafpgglebjllbaa", sum := "2e4d1560b2856cf569295b3088a15e6529462cdefec8207d51c1529b9aefce69", func := "quadrille/quadrillelaw04.NoteBodies", spec := "noteBodies", unfollowed := true, recurses := true, apart := false, narrowed := true }
def NoteBodiesUptoSaid : Prop := noteBodiesUptoRow.holds Try.pinned (OpenSpec.upto noteBodiesSpec)

/-- 'quadrillelaw04.NoteBursts', WHERE WHAT IT READS IS OF BULK AT MOST 1048576: true; the input reads as it did. -/
def noteBurstsUptoRow : OpenClaim := { program := "ytafpgglebjllbaa", sum := "2e4d1560b2856cf569295b3088a15e6529462cdefec8207d51c1529b9aefce69", func := "quadrille/quadrillelaw04.NoteBursts", spec := "noteBursts", unfollowed := true, recurses := true, apart := false, narrowed := true }
def NoteBurstsUptoSaid : Prop := noteBurstsUptoRow.holds Try.pinned (OpenSpec.upto noteBurstsSpec)

/-- 'quadrillelaw04.NoteApart', WHERE WHAT IT READS IS OF BULK AT MOST 1048576: true; the input reads as it did. -/
def noteApartUptoRow : OpenClaim := { program := "ytafpgglebjllbaa", sum := "2e4d1560b2856cf569295b3088a15e6529462cdefec8207d51c1529b9aefce69", func := "quadrille/quadrillelaw04.NoteApart", spec := "noteApart", unfollowed := true, recurses := true, apart := false, narrowed := true }
def NoteApartUptoSaid : Prop := noteApartUptoRow.holds Try.pinned (OpenSpec.upto noteApartSpec)

end Rows
end Go.Proofs.Ytafpgglebjllbaa
