/-
  No cell of these rows narrows 'for every input' (looked for: loops, veiled, ifaces, maps, wideKeys, modest, calm, conditions, laid).
  DERIVED. THE GIVEN ROWS OF THIS SEAT. 5 by the template 'for every input the law returns true; each argument reads behind the call as it read before'; 0 by the template 'total and deterministic' (their statements: YtadgplpbkephiaaTotals.lean).
  GIVEN WITH THE SEED: the statements are not yours to turn. If you find one false, say at which input.
  Laid BY PROGRAM, IN A SANDBOX (cutbox-rows.mjs): the forced cells as the released guide's own fill.sh prints them over the translation 6852212742295cf8… (all of the seat's roots in one cut). By AI agents, Wed Nov 11 2026. No macro, syntax, notation, axiom, sorry.
-/
import Derived.Test.YtadgplpbkephiaaChecked
import GoSem.Claim
import GoSem.ClaimJoined
import GoSem.ClaimMapViews
import Derived.JoinedTies
import Derived.KernelRfl
namespace Go.Proofs.Ytadgplpbkephiaa
/- THE CELL 'sum', in the pinned program and in every row, IS THE sha256 OF THE DUMP (.gsa) THAT YtadgplpbkephiaaProg.lean LOADS. Nothing in Lean hashes anything: it is a label: what it is worth is what the hold of that sum in a sandbox is worth. -/
noncomputable def Try.pinned : Pinned := { name := "ytadgplpbkephiaa", sum := "6852212742295cf8ecff6a8b240c351d9da40ef8f0773d8606503c5abc9d9a59", checked := Try.checked }
namespace Rows
def none {H : Type} : Left H := { results := [], args := [] }

/-- 'jettisonlaw19.SpansTells': WHATEVER THE INPUT: true; the input reads as it did. -/
def spansTellsSpec : ChangeSpec := { name := "spansTells", fn := fun _ => fun
  | [d1, d2, d3, d4, d5, d6, d7, d8] => { results := [.lit (.bool true)], args := [d1, d2, d3, d4, d5, d6, d7, d8] }
  | _ => none }
def spansTellsRow : OpenClaim := { program := "ytadgplpbkephiaa", sum := "6852212742295cf8ecff6a8b240c351d9da40ef8f0773d8606503c5abc9d9a59", func := "jettison/jettisonlaw19.SpansTells", spec := "spansTells", apart := false }
def SpansTellsSaid : Prop := spansTellsRow.holds Try.pinned (OpenSpec.ofChange spansTellsSpec)

/-- ITS FALSE NEIGHBOUR: 'it returns false'. Refute it at one input. -/
def spansTellsWrong : ChangeSpec := { name := "spansTells", fn := fun _ => fun
  | [d1, d2, d3, d4, d5, d6, d7, d8] => { results := [.lit (.bool false)], args := [d1, d2, d3, d4, d5, d6, d7, d8] }
  | _ => none }
def SpansTellsWrongFalsely : Prop := spansTellsRow.holds Try.pinned (OpenSpec.ofChange spansTellsWrong)

/-- 'jettisonlaw19.SpansKeep': WHATEVER THE INPUT: true; the input reads as it did. -/
def spansKeepSpec : ChangeSpec := { name := "spansKeep", fn := fun _ => fun
  | [d1, d2] => { results := [.lit (.bool true)], args := [d1, d2] }
  | _ => none }
def spansKeepRow : OpenClaim := { program := "ytadgplpbkephiaa", sum := "6852212742295cf8ecff6a8b240c351d9da40ef8f0773d8606503c5abc9d9a59", func := "jettison/jettisonlaw19.SpansKeep", spec := "spansKeep", apart := false }
def SpansKeepSaid : Prop := spansKeepRow.holds Try.pinned (OpenSpec.ofChange spansKeepSpec)

/-- ITS FALSE NEIGHBOUR: 'it returns false'. Refute it at one input. -/
def spansKeepWrong : ChangeSpec := { name := "spansKeep", fn := fun _ => fun
  | [d1, d2] => { results := [.lit (.bool false)], args := [d1, d2] }
  | _ => none }
def SpansKeepWrongFalsely : Prop := spansKeepRow.holds Try.pinned (OpenSpec.ofChange spansKeepWrong)

/-- 'jettisonlaw19.SpansExact': WHATEVER THE INPUT: true; the input reads as it did. -/
def spansExactSpec : ChangeSpec := { name := "spansExact", fn := fun _ => fun
  | [d1, d2, d3, d4, d5, d6] => { results := [.lit (.bool true)], args := [d1, d2, d3, d4, d5, d6] }
  | _ => none }
def spansExactRow : OpenClaim := { program := "ytadgplpbkephiaa", sum := "6852212742295cf8ecff6a8b240c351d9da40ef8f0773d8606503c5abc9d9a59", func := "jettison/jettisonlaw19.SpansExact", spec := "spansExact", apart := false }
def SpansExactSaid : Prop := spansExactRow.holds Try.pinned (OpenSpec.ofChange spansExactSpec)

/-- ITS FALSE NEIGHBOUR: 'it returns false'. Refute it at one input. -/
def spansExactWrong : ChangeSpec := { name := "spansExact", fn := fun _ => fun
  | [d1, d2, d3, d4, d5, d6] => { results := [.lit (.bool false)], args := [d1, d2, d3, d4, d5, d6] }
  | _ => none }
def SpansExactWrongFalsely : Prop := spansExactRow.holds Try.pinned (OpenSpec.ofChange spansExactWrong)

/-- 'jettisonlaw19.SpansMeet': WHATEVER THE INPUT: true; the input reads as it did. -/
def spansMeetSpec : ChangeSpec := { name := "spansMeet", fn := fun _ => fun
  | [d1, d2, d3, d4] => { results := [.lit (.bool true)], args := [d1, d2, d3, d4] }
  | _ => none }
def spansMeetRow : OpenClaim := { program := "ytadgplpbkephiaa", sum := "6852212742295cf8ecff6a8b240c351d9da40ef8f0773d8606503c5abc9d9a59", func := "jettison/jettisonlaw19.SpansMeet", spec := "spansMeet", apart := false }
def SpansMeetSaid : Prop := spansMeetRow.holds Try.pinned (OpenSpec.ofChange spansMeetSpec)

/-- ITS FALSE NEIGHBOUR: 'it returns false'. Refute it at one input. -/
def spansMeetWrong : ChangeSpec := { name := "spansMeet", fn := fun _ => fun
  | [d1, d2, d3, d4] => { results := [.lit (.bool false)], args := [d1, d2, d3, d4] }
  | _ => none }
def SpansMeetWrongFalsely : Prop := spansMeetRow.holds Try.pinned (OpenSpec.ofChange spansMeetWrong)

/-- 'jettisonlaw19.SpansMerge': WHATEVER THE INPUT: true; the input reads as it did. -/
def spansMergeSpec : ChangeSpec := { name := "spansMerge", fn := fun _ => fun
  | [d] => { results := [.lit (.bool true)], args := [d] }
  | _ => none }
def spansMergeRow : OpenClaim := { program := "ytadgplpbkephiaa", sum := "6852212742295cf8ecff6a8b240c351d9da40ef8f0773d8606503c5abc9d9a59", func := "jettison/jettisonlaw19.SpansMerge", spec := "spansMerge", apart := false }
def SpansMergeSaid : Prop := spansMergeRow.holds Try.pinned (OpenSpec.ofChange spansMergeSpec)

/-- ITS FALSE NEIGHBOUR: 'it returns false'. Refute it at one input. -/
def spansMergeWrong : ChangeSpec := { name := "spansMerge", fn := fun _ => fun
  | [d] => { results := [.lit (.bool false)], args := [d] }
  | _ => none }
def SpansMergeWrongFalsely : Prop := spansMergeRow.holds Try.pinned (OpenSpec.ofChange spansMergeWrong)

/- THE SECOND FORM. 'bulk': how many values and letters a reading holds, each counted each time it is reached (what is shared counts as often as it is met; a slice's spare places count too). A statement '..UptoSaid' is the law's where the arguments, and the package variables that the reading takes, are together of bulk at most 1048576: NARROWER than '..Said'. Prove '..Said' where nothing that the law and all that it calls make is longer than what came in: it says more and counts as full. Else prove '..UptoSaid'. A law counts once. -/
mutual
def uptoBulk {H : Type} : DataW H → Nat
  | .lit (.string bytes) => bytes.length + 1
  | .lit _ => 1
  | .nil => 1
  | .ptr d => uptoBulk d + 1
  | .slice elems spare => uptoBulkAll elems + uptoBulkAll spare + 1
  | .agg parts => uptoBulkAll parts + 1
  | .iface _ d => uptoBulk d + 1
  | .map entries => uptoBulkEntries entries + 1
  | .held _ => 1
def uptoBulkAll {H : Type} : List (DataW H) → Nat
  | [] => 0
  | d :: r => uptoBulk d + uptoBulkAll r
def uptoBulkEntries {H : Type} : List (Lit × DataW H) → Nat
  | [] => 0
  | x :: r => uptoBulkEntry x + uptoBulkEntries r
def uptoBulkEntry {H : Type} : Lit × DataW H → Nat
  | (.string bytes, d) => bytes.length + uptoBulk d + 1
  | (_, d) => uptoBulk d + 1
 end
def uptoSmall : (H : Type) → List (DataW H) → Bool := fun _ ds => decide (uptoBulkAll ds ≤ 1048576)
def OpenSpec.upto (s : _root_.Go.ChangeSpec) : _root_.Go.OpenSpec := { _root_.Go.OpenSpec.ofChange s with cond := some uptoSmall }

/-- 'jettisonlaw19.SpansTells', WHERE WHAT IT READS IS OF BULK AT MOST 1048576: true; the input reads as it did. -/
def spansTellsUptoRow : OpenClaim := { program := "ytadgplpbkephiaa", sum := "6852212742295cf8ecff6a8b240c351d9da40ef8f0773d8606503c5abc9d9a59", func := "jettison/jettisonlaw19.SpansTells", spec := "spansTells", apart := false, narrowed := true }
def SpansTellsUptoSaid : Prop := spansTellsUptoRow.holds Try.pinned (OpenSpec.upto spansTellsSpec)

/-- 'jettisonlaw19.SpansKeep', WHERE WHAT IT READS IS OF BULK AT MOST 1048576: true; the input reads as it did. -/
def spansKeepUptoRow : OpenClaim := { program := "ytadgplpbkephiaa", sum := "6852212742295cf8ecff6a8b240c351d9da40ef8f0773d8606503c5abc9d9a59", func := "jettison/jettisonlaw19.SpansKeep", spec := "spansKeep", apart := false, narrowed := true }
def SpansKeepUptoSaid : Prop := spansKeepUptoRow.holds Try.pinned (OpenSpec.upto spansKeepSpec)

/-- 'jettisonlaw19.SpansExact', WHERE WHAT IT READS IS OF BULK AT MOST 1048576: true; the input reads as it did. -/
def spansExactUptoRow : OpenClaim := { program := "ytadgplpbkephiaa", sum := "6852212742295cf8ecff6a8b240c351d9da40ef8f0773d8606503c5abc9d9a59", func := "jettison/jettisonlaw19.SpansExact", spec := "spansExact", apart := false, narrowed := true }
def SpansExactUptoSaid : Prop := spansExactUptoRow.holds Try.pinned (OpenSpec.upto spansExactSpec)

/-- 'jettisonlaw19.SpansMeet', WHERE WHAT IT READS IS OF BULK AT MOST 1048576: true; the input reads as it did. -/
def spansMeetUptoRow : OpenClaim := { program := "ytadgplpbkephiaa", sum := "6852212742295cf8ecff6a8b240c351d9da40ef8f0773d8606503c5abc9d9a59", func := "jettison/jettisonlaw19.SpansMeet", spec := "spansMeet", apart := false, narrowed := true }
def SpansMeetUptoSaid : Prop := spansMeetUptoRow.holds Try.pinned (OpenSpec.upto spansMeetSpec)

/-- 'jettisonlaw19.SpansMerge', WHERE WHAT IT READS IS OF BULK AT MOST 1048576: true; the input reads as it did. -/
def spansMergeUptoRow : OpenClaim := { program := "ytadgplpbkephiaa", sum := "6852212742295cf8ecff6a8b240c351d9da40ef8f0773d8606503c5abc9d9a59", func := "jettison/jettisonlaw19.SpansMerge", spec := "spansMerge", apart := false, narrowed := true }
def SpansMergeUptoSaid : Prop := spansMergeUptoRow.holds Try.pinned (OpenSpec.upto spansMergeSpec)

end Rows
end Go.Proofs.Ytadgplpbkephiaa
