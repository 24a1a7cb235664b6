/-
  No cell of these rows narrows 'for every input' (looked for: loops, veiled, ifaces, maps, wideKeys, modest, calm, conditions, laid).
  DERIVED. THE GIVEN ROWS OF THIS SEAT. 12 by the template 'for every input the law returns true; each argument reads behind the call as it read before'; 0 by the template 'total and deterministic' (their statements: YtkhjdidcpoefdaaTotals.lean).
  GIVEN WITH THE SEED: the statements are not yours to turn. If you find one false, say at which input.
  Laid BY PROGRAM, IN A SANDBOX (cutbox-rows.mjs): the forced cells as the released guide's own fill.sh prints them over the translation 1bfa941894902c87… (all of the seat's roots in one cut). By AI agents, Wed Nov 11 2026. No macro, syntax, notation, axiom, sorry.
-/
import Derived.Test.YtkhjdidcpoefdaaChecked
import GoSem.Claim
import GoSem.ClaimJoined
import GoSem.ClaimMapViews
import Derived.JoinedTies
import Derived.KernelRfl
namespace Go.Proofs.Ytkhjdidcpoefdaa
/- THE CELL 'sum', in the pinned program and in every row, IS THE sha256 OF THE DUMP (.gsa) THAT YtkhjdidcpoefdaaProg.lean LOADS. Nothing in Lean hashes anything: it is a label: what it is worth is what the hold of that sum in a sandbox is worth. -/
noncomputable def Try.pinned : Pinned := { name := "ytkhjdidcpoefdaa", sum := "1bfa941894902c87282639a7142632ff626202f97b111ef846291c7fd28a7f6f", checked := Try.checked }
namespace Rows
def none {H : Type} : Left H := { results := [], args := [] }

/-- 'laws.FnExactIsMachine': WHATEVER THE INPUT: true; the input reads as it did. -/
def fnExactIsMachineSpec : ChangeSpec := { name := "fnExactIsMachine", fn := fun _ => fun
  | [d] => { results := [.lit (.bool true)], args := [d] }
  | _ => none }
def fnExactIsMachineRow : OpenClaim := { program := "ytkhjdidcpoefdaa", sum := "1bfa941894902c87282639a7142632ff626202f97b111ef846291c7fd28a7f6f", func := "loop.example/g03112/laws.FnExactIsMachine", spec := "fnExactIsMachine", plainKeys := false, apart := false }
def FnExactIsMachineSaid : Prop := fnExactIsMachineRow.holds Try.pinned (OpenSpec.ofChange fnExactIsMachineSpec)

/-- ITS FALSE NEIGHBOUR: 'it returns false'. Refute it at one input. -/
def fnExactIsMachineWrong : ChangeSpec := { name := "fnExactIsMachine", fn := fun _ => fun
  | [d] => { results := [.lit (.bool false)], args := [d] }
  | _ => none }
def FnExactIsMachineWrongFalsely : Prop := fnExactIsMachineRow.holds Try.pinned (OpenSpec.ofChange fnExactIsMachineWrong)

/-- 'laws.FnExactRunMachine': WHATEVER THE INPUT: true; the input reads as it did. -/
def fnExactRunMachineSpec : ChangeSpec := { name := "fnExactRunMachine", fn := fun _ => fun
  | [d1, d2] => { results := [.lit (.bool true)], args := [d1, d2] }
  | _ => none }
def fnExactRunMachineRow : OpenClaim := { program := "ytkhjdidcpoefdaa", sum := "1bfa941894902c87282639a7142632ff626202f97b111ef846291c7fd28a7f6f", func := "loop.example/g03112/laws.FnExactRunMachine", spec := "fnExactRunMachine", unfollowed := true, recurses := true, plainKeys := false, apart := false }
def FnExactRunMachineSaid : Prop := fnExactRunMachineRow.holds Try.pinned (OpenSpec.ofChange fnExactRunMachineSpec)

/-- ITS FALSE NEIGHBOUR: 'it returns false'. Refute it at one input. -/
def fnExactRunMachineWrong : ChangeSpec := { name := "fnExactRunMachine", fn := fun _ => fun
  | [d1, d2] => { results := [.lit (.bool false)], args := [d1, d2] }
  | _ => none }
def FnExactRunMachineWrongFalsely : Prop := fnExactRunMachineRow.holds Try.pinned (OpenSpec.ofChange fnExactRunMachineWrong)

/-- 'laws.FnExactAcceptsWord': WHATEVER THE INPUT: true; the input reads as it did. -/
def fnExactAcceptsWordSpec : ChangeSpec := { name := "fnExactAcceptsWord", fn := fun _ => fun
  | [d1, d2] => { results := [.lit (.bool true)], args := [d1, d2] }
  | _ => none }
def fnExactAcceptsWordRow : OpenClaim := { program := "ytkhjdidcpoefdaa", sum := "1bfa941894902c87282639a7142632ff626202f97b111ef846291c7fd28a7f6f", func := "loop.example/g03112/laws.FnExactAcceptsWord", spec := "fnExactAcceptsWord", unfollowed := true, recurses := true, plainKeys := false, apart := false }
def FnExactAcceptsWordSaid : Prop := fnExactAcceptsWordRow.holds Try.pinned (OpenSpec.ofChange fnExactAcceptsWordSpec)

/-- ITS FALSE NEIGHBOUR: 'it returns false'. Refute it at one input. -/
def fnExactAcceptsWordWrong : ChangeSpec := { name := "fnExactAcceptsWord", fn := fun _ => fun
  | [d1, d2] => { results := [.lit (.bool false)], args := [d1, d2] }
  | _ => none }
def FnExactAcceptsWordWrongFalsely : Prop := fnExactAcceptsWordRow.holds Try.pinned (OpenSpec.ofChange fnExactAcceptsWordWrong)

/-- 'laws.FnExactComplementMachine': WHATEVER THE INPUT: true; the input reads as it did. -/
def fnExactComplementMachineSpec : ChangeSpec := { name := "fnExactComplementMachine", fn := fun _ => fun
  | [d] => { results := [.lit (.bool true)], args := [d] }
  | _ => none }
def fnExactComplementMachineRow : OpenClaim := { program := "ytkhjdidcpoefdaa", sum := "1bfa941894902c87282639a7142632ff626202f97b111ef846291c7fd28a7f6f", func := "loop.example/g03112/laws.FnExactComplementMachine", spec := "fnExactComplementMachine", plainKeys := false, apart := false }
def FnExactComplementMachineSaid : Prop := fnExactComplementMachineRow.holds Try.pinned (OpenSpec.ofChange fnExactComplementMachineSpec)

/-- ITS FALSE NEIGHBOUR: 'it returns false'. Refute it at one input. -/
def fnExactComplementMachineWrong : ChangeSpec := { name := "fnExactComplementMachine", fn := fun _ => fun
  | [d] => { results := [.lit (.bool false)], args := [d] }
  | _ => none }
def FnExactComplementMachineWrongFalsely : Prop := fnExactComplementMachineRow.holds Try.pinned (OpenSpec.ofChange fnExactComplementMachineWrong)

/-- 'laws.FnExactProductMachine': WHATEVER THE INPUT: true; the input reads as it did. -/
def fnExactProductMachineSpec : ChangeSpec := { name := "fnExactProductMachine", fn := fun _ => fun
  | [d1, d2, d3] => { results := [.lit (.bool true)], args := [d1, d2, d3] }
  | _ => none }
def fnExactProductMachineRow : OpenClaim := { program := "ytkhjdidcpoefdaa", sum := "1bfa941894902c87282639a7142632ff626202f97b111ef846291c7fd28a7f6f", func := "loop.example/g03112/laws.FnExactProductMachine", spec := "fnExactProductMachine", unfollowed := true, recurses := true, plainKeys := false, apart := false }
def FnExactProductMachineSaid : Prop := fnExactProductMachineRow.holds Try.pinned (OpenSpec.ofChange fnExactProductMachineSpec)

/-- ITS FALSE NEIGHBOUR: 'it returns false'. Refute it at one input. -/
def fnExactProductMachineWrong : ChangeSpec := { name := "fnExactProductMachine", fn := fun _ => fun
  | [d1, d2, d3] => { results := [.lit (.bool false)], args := [d1, d2, d3] }
  | _ => none }
def FnExactProductMachineWrongFalsely : Prop := fnExactProductMachineRow.holds Try.pinned (OpenSpec.ofChange fnExactProductMachineWrong)

/-- 'laws.FnExactCountWords': WHATEVER THE INPUT: true; the input reads as it did. -/
def fnExactCountWordsSpec : ChangeSpec := { name := "fnExactCountWords", fn := fun _ => fun
  | [d1, d2, d3] => { results := [.lit (.bool true)], args := [d1, d2, d3] }
  | _ => none }
def fnExactCountWordsRow : OpenClaim := { program := "ytkhjdidcpoefdaa", sum := "1bfa941894902c87282639a7142632ff626202f97b111ef846291c7fd28a7f6f", func := "loop.example/g03112/laws.FnExactCountWords", spec := "fnExactCountWords", recurses := true, plainKeys := false, apart := false }
def FnExactCountWordsSaid : Prop := fnExactCountWordsRow.holds Try.pinned (OpenSpec.ofChange fnExactCountWordsSpec)

/-- ITS FALSE NEIGHBOUR: 'it returns false'. Refute it at one input. -/
def fnExactCountWordsWrong : ChangeSpec := { name := "fnExactCountWords", fn := fun _ => fun
  | [d1, d2, d3] => { results := [.lit (.bool false)], args := [d1, d2, d3] }
  | _ => none }
def FnExactCountWordsWrongFalsely : Prop := fnExactCountWordsRow.holds Try.pinned (OpenSpec.ofChange fnExactCountWordsWrong)

/-- 'laws.FnExactCountTuples': WHATEVER THE INPUT: true; the input reads as it did. -/
def fnExactCountTuplesSpec : ChangeSpec := { name := "fnExactCountTuples", fn := fun _ => fun
  | [d1, d2] => { results := [.lit (.bool true)], args := [d1, d2] }
  | _ => none }
def fnExactCountTuplesRow : OpenClaim := { program := "ytkhjdidcpoefdaa", sum := "1bfa941894902c87282639a7142632ff626202f97b111ef846291c7fd28a7f6f", func := "loop.example/g03112/laws.FnExactCountTuples", spec := "fnExactCountTuples", unfollowed := true, recurses := true, plainKeys := false, apart := false }
def FnExactCountTuplesSaid : Prop := fnExactCountTuplesRow.holds Try.pinned (OpenSpec.ofChange fnExactCountTuplesSpec)

/-- ITS FALSE NEIGHBOUR: 'it returns false'. Refute it at one input. -/
def fnExactCountTuplesWrong : ChangeSpec := { name := "fnExactCountTuples", fn := fun _ => fun
  | [d1, d2] => { results := [.lit (.bool false)], args := [d1, d2] }
  | _ => none }
def FnExactCountTuplesWrongFalsely : Prop := fnExactCountTuplesRow.holds Try.pinned (OpenSpec.ofChange fnExactCountTuplesWrong)

/-- 'laws.FnExactDifferLength': WHATEVER THE INPUT: true; the input reads as it did. -/
def fnExactDifferLengthSpec : ChangeSpec := { name := "fnExactDifferLength", fn := fun _ => fun
  | [d1, d2] => { results := [.lit (.bool true)], args := [d1, d2] }
  | _ => none }
def fnExactDifferLengthRow : OpenClaim := { program := "ytkhjdidcpoefdaa", sum := "1bfa941894902c87282639a7142632ff626202f97b111ef846291c7fd28a7f6f", func := "loop.example/g03112/laws.FnExactDifferLength", spec := "fnExactDifferLength", plainKeys := false, apart := false }
def FnExactDifferLengthSaid : Prop := fnExactDifferLengthRow.holds Try.pinned (OpenSpec.ofChange fnExactDifferLengthSpec)

/-- ITS FALSE NEIGHBOUR: 'it returns false'. Refute it at one input. -/
def fnExactDifferLengthWrong : ChangeSpec := { name := "fnExactDifferLength", fn := fun _ => fun
  | [d1, d2] => { results := [.lit (.bool false)], args := [d1, d2] }
  | _ => none }
def FnExactDifferLengthWrongFalsely : Prop := fnExactDifferLengthRow.holds Try.pinned (OpenSpec.ofChange fnExactDifferLengthWrong)

/-- 'laws.FnExactShortestLength': WHATEVER THE INPUT: true; the input reads as it did. -/
def fnExactShortestLengthSpec : ChangeSpec := { name := "fnExactShortestLength", fn := fun _ => fun
  | [d] => { results := [.lit (.bool true)], args := [d] }
  | _ => none }
def fnExactShortestLengthRow : OpenClaim := { program := "ytkhjdidcpoefdaa", sum := "1bfa941894902c87282639a7142632ff626202f97b111ef846291c7fd28a7f6f", func := "loop.example/g03112/laws.FnExactShortestLength", spec := "fnExactShortestLength", plainKeys := false, apart := false }
def FnExactShortestLengthSaid : Prop := fnExactShortestLengthRow.holds Try.pinned (OpenSpec.ofChange fnExactShortestLengthSpec)

/-- ITS FALSE NEIGHBOUR: 'it returns false'. Refute it at one input. -/
def fnExactShortestLengthWrong : ChangeSpec := { name := "fnExactShortestLength", fn := fun _ => fun
  | [d] => { results := [.lit (.bool false)], args := [d] }
  | _ => none }
def FnExactShortestLengthWrongFalsely : Prop := fnExactShortestLengthRow.holds Try.pinned (OpenSpec.ofChange fnExactShortestLengthWrong)

/-- 'laws.FnExactSameMachines': WHATEVER THE INPUT: true; the input reads as it did. -/
def fnExactSameMachinesSpec : ChangeSpec := { name := "fnExactSameMachines", fn := fun _ => fun
  | [d1, d2] => { results := [.lit (.bool true)], args := [d1, d2] }
  | _ => none }
def fnExactSameMachinesRow : OpenClaim := { program := "ytkhjdidcpoefdaa", sum := "1bfa941894902c87282639a7142632ff626202f97b111ef846291c7fd28a7f6f", func := "loop.example/g03112/laws.FnExactSameMachines", spec := "fnExactSameMachines", plainKeys := false, apart := false }
def FnExactSameMachinesSaid : Prop := fnExactSameMachinesRow.holds Try.pinned (OpenSpec.ofChange fnExactSameMachinesSpec)

/-- ITS FALSE NEIGHBOUR: 'it returns false'. Refute it at one input. -/
def fnExactSameMachinesWrong : ChangeSpec := { name := "fnExactSameMachines", fn := fun _ => fun
  | [d1, d2] => { results := [.lit (.bool false)], args := [d1, d2] }
  | _ => none }
def FnExactSameMachinesWrongFalsely : Prop := fnExactSameMachinesRow.holds Try.pinned (OpenSpec.ofChange fnExactSameMachinesWrong)

/-- 'laws.FnExactLeastWord': WHATEVER THE INPUT: true; the input reads as it did. -/
def fnExactLeastWordSpec : ChangeSpec := { name := "fnExactLeastWord", fn := fun _ => fun
  | [d1, d2] => { results := [.lit (.bool true)], args := [d1, d2] }
  | _ => none }
def fnExactLeastWordRow : OpenClaim := { program := "ytkhjdidcpoefdaa", sum := "1bfa941894902c87282639a7142632ff626202f97b111ef846291c7fd28a7f6f", func := "loop.example/g03112/laws.FnExactLeastWord", spec := "fnExactLeastWord", recurses := true, plainKeys := false, apart := false }
def FnExactLeastWordSaid : Prop := fnExactLeastWordRow.holds Try.pinned (OpenSpec.ofChange fnExactLeastWordSpec)

/-- ITS FALSE NEIGHBOUR: 'it returns false'. Refute it at one input. -/
def fnExactLeastWordWrong : ChangeSpec := { name := "fnExactLeastWord", fn := fun _ => fun
  | [d1, d2] => { results := [.lit (.bool false)], args := [d1, d2] }
  | _ => none }
def FnExactLeastWordWrongFalsely : Prop := fnExactLeastWordRow.holds Try.pinned (OpenSpec.ofChange fnExactLeastWordWrong)

/-- 'laws.FnExactLeastDifference': WHATEVER THE INPUT: true; the input reads as it did. -/
def fnExactLeastDifferenceSpec : ChangeSpec := { name := "fnExactLeastDifference", fn := fun _ => fun
  | [d1, d2, d3] => { results := [.lit (.bool true)], args := [d1, d2, d3] }
  | _ => none }
def fnExactLeastDifferenceRow : OpenClaim := { program := "ytkhjdidcpoefdaa", sum := "1bfa941894902c87282639a7142632ff626202f97b111ef846291c7fd28a7f6f", func := "loop.example/g03112/laws.FnExactLeastDifference", spec := "fnExactLeastDifference", recurses := true, plainKeys := false, apart := false }
def FnExactLeastDifferenceSaid : Prop := fnExactLeastDifferenceRow.holds Try.pinned (OpenSpec.ofChange fnExactLeastDifferenceSpec)

/-- ITS FALSE NEIGHBOUR: 'it returns false'. Refute it at one input. -/
def fnExactLeastDifferenceWrong : ChangeSpec := { name := "fnExactLeastDifference", fn := fun _ => fun
  | [d1, d2, d3] => { results := [.lit (.bool false)], args := [d1, d2, d3] }
  | _ => none }
def FnExactLeastDifferenceWrongFalsely : Prop := fnExactLeastDifferenceRow.holds Try.pinned (OpenSpec.ofChange fnExactLeastDifferenceWrong)

/- THE SECOND FORM. 'bulk': how many values and letters a reading holds, each counted each time it is reached (what is shared counts as often as it is met; a slice's spare places count too). A statement '..UptoSaid' is the law's where the arguments, and the package variables that the reading takes, are together of bulk at most 1048576: NARROWER than '..Said'. Prove '..Said' where nothing that the law and all that it calls make is longer than what came in: it says more and counts as full. Else prove '..UptoSaid'. A law counts once. -/
mutual
def uptoBulk {H : Type} : DataW H → Nat
  | .lit (.string bytes) => bytes.length + 1
  | .lit _ => 1
  | .nil => 1
  | .ptr d => uptoBulk d + 1
  | .slice elems spare => uptoBulkAll elems + uptoBulkAll spare + 1
  | .agg parts => uptoBulkAll parts + 1
  | .iface _ d => uptoBulk d + 1
  | .map entries => uptoBulkEntries entries + 1
  | .held _ => 1
def uptoBulkAll {H : Type} : List (DataW H) → Nat
  | [] => 0
  | d :: r => uptoBulk d + uptoBulkAll r
def uptoBulkEntries {H : Type} : List (Lit × DataW H) → Nat
  | [] => 0
  | x :: r => uptoBulkEntry x + uptoBulkEntries r
def uptoBulkEntry {H : Type} : Lit × DataW H → Nat
  | (.string bytes, d) => bytes.length + uptoBulk d + 1
  | (_, d) => uptoBulk d + 1
 end
def uptoSmall : (H : Type) → List (DataW H) → Bool := fun _ ds => decide (uptoBulkAll ds ≤ 1048576)
def OpenSpec.upto (s : _root_.Go.ChangeSpec) : _root_.Go.OpenSpec := { _root_.Go.OpenSpec.ofChange s with cond := some uptoSmall }

/-- 'laws.FnExactIsMachine', WHERE WHAT IT READS IS OF BULK AT MOST 1048576: true; the input reads as it did. -/
def fnExactIsMachineUptoRow : OpenClaim := { program := "ytkhjdidcpoefdaa", sum := "1bfa941894902c87282639a7142632ff626202f97b111ef846291c7fd28a7f6f", func := "loop.example/g03112/laws.FnExactIsMachine", spec := "fnExactIsMachine", plainKeys := false, apart := false, narrowed := true }
def FnExactIsMachineUptoSaid : Prop := fnExactIsMachineUptoRow.holds Try.pinned (OpenSpec.upto fnExactIsMachineSpec)

/-- 'laws.FnExactRunMachine', WHERE WHAT IT READS IS OF BULK AT MOST 1048576: true; the input reads as it did. -/
def fnExactRunMachineUptoRow : OpenClaim := { program := "ytkhjdidcpoefdaa", sum := "1bfa941894902c87282639a7142632ff626202f97b111ef846291c7fd28a7f6f", func := "loop.example/g03112/laws.FnExactRunMachine", spec := "fnExactRunMachine", unfollowed := true, recurses := true, plainKeys := false, apart := false, narrowed := true }
def FnExactRunMachineUptoSaid : Prop := fnExactRunMachineUptoRow.holds Try.pinned (OpenSpec.upto fnExactRunMachineSpec)

/-- 'laws.FnExactAcceptsWord', WHERE WHAT IT READS IS OF BULK AT MOST 1048576: true; the input reads as it did. -/
def fnExactAcceptsWordUptoRow : OpenClaim := { program := "ytkhjdidcpoefdaa", sum := "1bfa941894902c87282639a7142632ff626202f97b111ef846291c7fd28a7f6f", func := "loop.example/g03112/laws.FnExactAcceptsWord", spec := "fnExactAcceptsWord", unfollowed := true, recurses := true, plainKeys := false, apart := false, narrowed := true }
def FnExactAcceptsWordUptoSaid : Prop := fnExactAcceptsWordUptoRow.holds Try.pinned (OpenSpec.upto fnExactAcceptsWordSpec)

/-- 'laws.FnExactComplementMachine', WHERE WHAT IT READS IS OF BULK AT MOST 1048576: true; the input reads as it did. -/
def fnExactComplementMachineUptoRow : OpenClaim := { program := "ytkhjdidcpoefdaa", sum := "1bfa941894902c87282639a7142632ff626202f97b111ef846291c7fd28a7f6f", func := "loop.example/g03112/laws.FnExactComplementMachine", spec := "fnExactComplementMachine", plainKeys := false, apart := false, narrowed := true }
def FnExactComplementMachineUptoSaid : Prop := fnExactComplementMachineUptoRow.holds Try.pinned (OpenSpec.upto fnExactComplementMachineSpec)

/-- 'laws.FnExactProductMachine', WHERE WHAT IT READS IS OF BULK AT MOST 1048576: true; the input reads as it did. -/
def fnExactProductMachineUptoRow : OpenClaim := { program := "ytkhjdidcpoefdaa", sum := "1bfa941894902c87282639a7142632ff626202f97b111ef846291c7fd28a7f6f", func := "loop.example/g03112/laws.FnExactProductMachine", spec := "fnExactProductMachine", unfollowed := true, recurses := true, plainKeys := false, apart := false, narrowed := true }
def FnExactProductMachineUptoSaid : Prop := fnExactProductMachineUptoRow.holds Try.pinned (OpenSpec.upto fnExactProductMachineSpec)

/-- 'laws.FnExactCountWords', WHERE WHAT IT READS IS OF BULK AT MOST 1048576: true; the input reads as it did. -/
def fnExactCountWordsUptoRow : OpenClaim := { program := "ytkhjdidcpoefdaa", sum := "1bfa941894902c87282639a7142632ff626202f97b111ef846291c7fd28a7f6f", func := "loop.example/g03112/laws.FnExactCountWords", spec := "fnExactCountWords", recurses := true, plainKeys := false, apart := false, narrowed := true }
def FnExactCountWordsUptoSaid : Prop := fnExactCountWordsUptoRow.holds Try.pinned (OpenSpec.upto fnExactCountWordsSpec)

/-- 'laws.FnExactCountTuples', WHERE WHAT IT READS IS OF BULK AT MOST 1048576: true; the input reads as it did. -/
def fnExactCountTuplesUptoRow : OpenClaim := { program := "ytkhjdidcpoefdaa", sum := "1bfa941894902c87282639a7142632ff626202f97b111ef846291c7fd28a7f6f", func := "loop.example/g03112/laws.FnExactCountTuples", spec := "fnExactCountTuples", unfollowed := true, recurses := true, plainKeys := false, apart := false, narrowed := true }
def FnExactCountTuplesUptoSaid : Prop := fnExactCountTuplesUptoRow.holds Try.pinned (OpenSpec.upto fnExactCountTuplesSpec)

/-- 'laws.FnExactDifferLength', WHERE WHAT IT READS IS OF BULK AT MOST 1048576: true; the input reads as it did. -/
def fnExactDifferLengthUptoRow : OpenClaim := { program := "ytkhjdidcpoefdaa", sum := "1bfa941894902c87282639a7142632ff626202f97b111ef846291c7fd28a7f6f", func := "loop.example/g03112/laws.FnExactDifferLength", spec := "fnExactDifferLength", plainKeys := false, apart := false, narrowed := true }
def FnExactDifferLengthUptoSaid : Prop := fnExactDifferLengthUptoRow.holds Try.pinned (OpenSpec.upto fnExactDifferLengthSpec)

/-- 'laws.FnExactShortestLength', WHERE WHAT IT READS IS OF BULK AT MOST 1048576: true; the input reads as it did. -/
def fnExactShortestLengthUptoRow : OpenClaim := { program := "ytkhjdidcpoefdaa", sum := "1bfa941894902c87282639a7142632ff626202f97b111ef846291c7fd28a7f6f", func := "loop.example/g03112/laws.FnExactShortestLength", spec := "fnExactShortestLength", plainKeys := false, apart := false, narrowed := true }
def FnExactShortestLengthUptoSaid : Prop := fnExactShortestLengthUptoRow.holds Try.pinned (OpenSpec.upto fnExactShortestLengthSpec)

/-- 'laws.FnExactSameMachines', WHERE WHAT IT READS IS OF BULK AT MOST 1048576: true; the input reads as it did. -/
def fnExactSameMachinesUptoRow : OpenClaim := { program := "ytkhjdidcpoefdaa", sum := "1bfa941894902c87282639a7142632ff626202f97b111ef846291c7fd28a7f6f", func := "loop.example/g03112/laws.FnExactSameMachines", spec := "fnExactSameMachines", plainKeys := false, apart := false, narrowed := true }
def FnExactSameMachinesUptoSaid : Prop := fnExactSameMachinesUptoRow.holds Try.pinned (OpenSpec.upto fnExactSameMachinesSpec)

/-- 'laws.FnExactLeastWord', WHERE WHAT IT READS IS OF BULK AT MOST 1048576: true; the input reads as it did. -/
def fnExactLeastWordUptoRow : OpenClaim := { program := "ytkhjdidcpoefdaa", sum := "1bfa941894902c87282639a7142632ff626202f97b111ef846291c7fd28a7f6f", func := "loop.example/g03112/laws.FnExactLeastWord", spec := "fnExactLeastWord", recurses := true, plainKeys := false, apart := false, narrowed := true }
def FnExactLeastWordUptoSaid : Prop := fnExactLeastWordUptoRow.holds Try.pinned (OpenSpec.upto fnExactLeastWordSpec)

/-- 'laws.FnExactLeastDifference', WHERE WHAT IT READS IS OF BULK AT MOST 1048576: true; the input reads as it did. -/
def fnExactLeastDifferenceUptoRow : OpenClaim := { program := "ytkhjdidcpoefdaa", sum := "1bfa941894902c87282639a7142632ff626202f97b111ef846291c7fd28a7f6f", func := "loop.example/g03112/laws.FnExactLeastDifference", spec := "fnExactLeastDifference", recurses := true, plainKeys := false, apart := false, narrowed := true }
def FnExactLeastDifferenceUptoSaid : Prop := fnExactLeastDifferenceUptoRow.holds Try.pinned (OpenSpec.upto fnExactLeastDifferenceSpec)

end Rows
end Go.Proofs.Ytkhjdidcpoefdaa
