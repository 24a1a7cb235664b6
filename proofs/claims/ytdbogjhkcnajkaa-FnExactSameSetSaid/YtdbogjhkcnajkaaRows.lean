/-
  NARROWER THAN 'FOR EVERY INPUT', by the rows' own cells (each row's printed sentence says how): FnExactSetOfFormula: loops.
  DERIVED. THE GIVEN ROWS OF THIS SEAT. 12 by the template 'for every input the law returns true; each argument reads behind the call as it read before'; 0 by the template 'total and deterministic' (their statements: YtdbogjhkcnajkaaTotals.lean).
  GIVEN WITH THE SEED: the statements are not yours to turn. If you find one false, say at which input.
  Laid BY PROGRAM, IN A SANDBOX (cutbox-rows.mjs): the forced cells as the released guide's own fill.sh prints them over the translation b6893787e36f9b01… (all of the seat's roots in one cut). By AI agents, Wed Nov 11 2026. No macro, syntax, notation, axiom, sorry.
-/
import Derived.Test.YtdbogjhkcnajkaaChecked
import GoSem.Claim
import GoSem.ClaimJoined
import GoSem.ClaimMapViews
import Derived.JoinedTies
import Derived.KernelRfl
namespace Go.Proofs.Ytdbogjhkcnajkaa
/- THE CELL 'sum', in the pinned program and in every row, IS THE sha256 OF THE DUMP (.gsa) THAT YtdbogjhkcnajkaaProg.lean LOADS. Nothing in Lean hashes anything: it is a label: what it is worth is what the hold of that sum in a sandbox is worth. -/
noncomputable def Try.pinned : Pinned := { name := "ytdbogjhkcnajkaa", sum := "b6893787e36f9b0163bb403f8d1899b7b02fb392f7901d22682bf16b4264c9cf", checked := Try.checked }
namespace Rows
def none {H : Type} : Left H := { results := [], args := [] }

/-- 'laws.FnExactPatternsOf': WHATEVER THE INPUT: true; the input reads as it did. -/
def fnExactPatternsOfSpec : ChangeSpec := { name := "fnExactPatternsOf", fn := fun _ => fun
  | [d1, d2] => { results := [.lit (.bool true)], args := [d1, d2] }
  | _ => none }
def fnExactPatternsOfRow : OpenClaim := { program := "ytdbogjhkcnajkaa", sum := "b6893787e36f9b0163bb403f8d1899b7b02fb392f7901d22682bf16b4264c9cf", func := "loop.example/g03112/laws.FnExactPatternsOf", spec := "fnExactPatternsOf", unfollowed := true, recurses := true, apart := false }
def FnExactPatternsOfSaid : Prop := fnExactPatternsOfRow.holds Try.pinned (OpenSpec.ofChange fnExactPatternsOfSpec)

/-- ITS FALSE NEIGHBOUR: 'it returns false'. Refute it at one input. -/
def fnExactPatternsOfWrong : ChangeSpec := { name := "fnExactPatternsOf", fn := fun _ => fun
  | [d1, d2] => { results := [.lit (.bool false)], args := [d1, d2] }
  | _ => none }
def FnExactPatternsOfWrongFalsely : Prop := fnExactPatternsOfRow.holds Try.pinned (OpenSpec.ofChange fnExactPatternsOfWrong)

/-- 'laws.FnExactSetOf': WHATEVER THE INPUT: true; the input reads as it did. -/
def fnExactSetOfSpec : ChangeSpec := { name := "fnExactSetOf", fn := fun _ => fun
  | [d1, d2, d3] => { results := [.lit (.bool true)], args := [d1, d2, d3] }
  | _ => none }
def fnExactSetOfRow : OpenClaim := { program := "ytdbogjhkcnajkaa", sum := "b6893787e36f9b0163bb403f8d1899b7b02fb392f7901d22682bf16b4264c9cf", func := "loop.example/g03112/laws.FnExactSetOf", spec := "fnExactSetOf", unfollowed := true, recurses := true, apart := false }
def FnExactSetOfSaid : Prop := fnExactSetOfRow.holds Try.pinned (OpenSpec.ofChange fnExactSetOfSpec)

/-- ITS FALSE NEIGHBOUR: 'it returns false'. Refute it at one input. -/
def fnExactSetOfWrong : ChangeSpec := { name := "fnExactSetOf", fn := fun _ => fun
  | [d1, d2, d3] => { results := [.lit (.bool false)], args := [d1, d2, d3] }
  | _ => none }
def FnExactSetOfWrongFalsely : Prop := fnExactSetOfRow.holds Try.pinned (OpenSpec.ofChange fnExactSetOfWrong)

/-- 'laws.FnExactExtendSet': WHATEVER THE INPUT: true; the input reads as it did. -/
def fnExactExtendSetSpec : ChangeSpec := { name := "fnExactExtendSet", fn := fun _ => fun
  | [d1, d2] => { results := [.lit (.bool true)], args := [d1, d2] }
  | _ => none }
def fnExactExtendSetRow : OpenClaim := { program := "ytdbogjhkcnajkaa", sum := "b6893787e36f9b0163bb403f8d1899b7b02fb392f7901d22682bf16b4264c9cf", func := "loop.example/g03112/laws.FnExactExtendSet", spec := "fnExactExtendSet", unfollowed := true, recurses := true, apart := false }
def FnExactExtendSetSaid : Prop := fnExactExtendSetRow.holds Try.pinned (OpenSpec.ofChange fnExactExtendSetSpec)

/-- ITS FALSE NEIGHBOUR: 'it returns false'. Refute it at one input. -/
def fnExactExtendSetWrong : ChangeSpec := { name := "fnExactExtendSet", fn := fun _ => fun
  | [d1, d2] => { results := [.lit (.bool false)], args := [d1, d2] }
  | _ => none }
def FnExactExtendSetWrongFalsely : Prop := fnExactExtendSetRow.holds Try.pinned (OpenSpec.ofChange fnExactExtendSetWrong)

/-- 'laws.FnExactUniteSets': WHATEVER THE INPUT: true; the input reads as it did. -/
def fnExactUniteSetsSpec : ChangeSpec := { name := "fnExactUniteSets", fn := fun _ => fun
  | [d1, d2] => { results := [.lit (.bool true)], args := [d1, d2] }
  | _ => none }
def fnExactUniteSetsRow : OpenClaim := { program := "ytdbogjhkcnajkaa", sum := "b6893787e36f9b0163bb403f8d1899b7b02fb392f7901d22682bf16b4264c9cf", func := "loop.example/g03112/laws.FnExactUniteSets", spec := "fnExactUniteSets", unfollowed := true, recurses := true, apart := false }
def FnExactUniteSetsSaid : Prop := fnExactUniteSetsRow.holds Try.pinned (OpenSpec.ofChange fnExactUniteSetsSpec)

/-- ITS FALSE NEIGHBOUR: 'it returns false'. Refute it at one input. -/
def fnExactUniteSetsWrong : ChangeSpec := { name := "fnExactUniteSets", fn := fun _ => fun
  | [d1, d2] => { results := [.lit (.bool false)], args := [d1, d2] }
  | _ => none }
def FnExactUniteSetsWrongFalsely : Prop := fnExactUniteSetsRow.holds Try.pinned (OpenSpec.ofChange fnExactUniteSetsWrong)

/-- 'laws.FnExactMeetSets': WHATEVER THE INPUT: true; the input reads as it did. -/
def fnExactMeetSetsSpec : ChangeSpec := { name := "fnExactMeetSets", fn := fun _ => fun
  | [d1, d2] => { results := [.lit (.bool true)], args := [d1, d2] }
  | _ => none }
def fnExactMeetSetsRow : OpenClaim := { program := "ytdbogjhkcnajkaa", sum := "b6893787e36f9b0163bb403f8d1899b7b02fb392f7901d22682bf16b4264c9cf", func := "loop.example/g03112/laws.FnExactMeetSets", spec := "fnExactMeetSets", unfollowed := true, recurses := true, apart := false }
def FnExactMeetSetsSaid : Prop := fnExactMeetSetsRow.holds Try.pinned (OpenSpec.ofChange fnExactMeetSetsSpec)

/-- ITS FALSE NEIGHBOUR: 'it returns false'. Refute it at one input. -/
def fnExactMeetSetsWrong : ChangeSpec := { name := "fnExactMeetSets", fn := fun _ => fun
  | [d1, d2] => { results := [.lit (.bool false)], args := [d1, d2] }
  | _ => none }
def FnExactMeetSetsWrongFalsely : Prop := fnExactMeetSetsRow.holds Try.pinned (OpenSpec.ofChange fnExactMeetSetsWrong)

/-- 'laws.FnExactComplementSet': WHATEVER THE INPUT: true; the input reads as it did. -/
def fnExactComplementSetSpec : ChangeSpec := { name := "fnExactComplementSet", fn := fun _ => fun
  | [d] => { results := [.lit (.bool true)], args := [d] }
  | _ => none }
def fnExactComplementSetRow : OpenClaim := { program := "ytdbogjhkcnajkaa", sum := "b6893787e36f9b0163bb403f8d1899b7b02fb392f7901d22682bf16b4264c9cf", func := "loop.example/g03112/laws.FnExactComplementSet", spec := "fnExactComplementSet", unfollowed := true, recurses := true, apart := false }
def FnExactComplementSetSaid : Prop := fnExactComplementSetRow.holds Try.pinned (OpenSpec.ofChange fnExactComplementSetSpec)

/-- ITS FALSE NEIGHBOUR: 'it returns false'. Refute it at one input. -/
def fnExactComplementSetWrong : ChangeSpec := { name := "fnExactComplementSet", fn := fun _ => fun
  | [d] => { results := [.lit (.bool false)], args := [d] }
  | _ => none }
def FnExactComplementSetWrongFalsely : Prop := fnExactComplementSetRow.holds Try.pinned (OpenSpec.ofChange fnExactComplementSetWrong)

/-- 'laws.FnExactPlacesOfSet': WHATEVER THE INPUT: true; the input reads as it did. -/
def fnExactPlacesOfSetSpec : ChangeSpec := { name := "fnExactPlacesOfSet", fn := fun _ => fun
  | [d1, d2] => { results := [.lit (.bool true)], args := [d1, d2] }
  | _ => none }
def fnExactPlacesOfSetRow : OpenClaim := { program := "ytdbogjhkcnajkaa", sum := "b6893787e36f9b0163bb403f8d1899b7b02fb392f7901d22682bf16b4264c9cf", func := "loop.example/g03112/laws.FnExactPlacesOfSet", spec := "fnExactPlacesOfSet", unfollowed := true, recurses := true, apart := false }
def FnExactPlacesOfSetSaid : Prop := fnExactPlacesOfSetRow.holds Try.pinned (OpenSpec.ofChange fnExactPlacesOfSetSpec)

/-- ITS FALSE NEIGHBOUR: 'it returns false'. Refute it at one input. -/
def fnExactPlacesOfSetWrong : ChangeSpec := { name := "fnExactPlacesOfSet", fn := fun _ => fun
  | [d1, d2] => { results := [.lit (.bool false)], args := [d1, d2] }
  | _ => none }
def FnExactPlacesOfSetWrongFalsely : Prop := fnExactPlacesOfSetRow.holds Try.pinned (OpenSpec.ofChange fnExactPlacesOfSetWrong)

/-- 'laws.FnExactWidenSet': WHATEVER THE INPUT: true; the input reads as it did. -/
def fnExactWidenSetSpec : ChangeSpec := { name := "fnExactWidenSet", fn := fun _ => fun
  | [d] => { results := [.lit (.bool true)], args := [d] }
  | _ => none }
def fnExactWidenSetRow : OpenClaim := { program := "ytdbogjhkcnajkaa", sum := "b6893787e36f9b0163bb403f8d1899b7b02fb392f7901d22682bf16b4264c9cf", func := "loop.example/g03112/laws.FnExactWidenSet", spec := "fnExactWidenSet", unfollowed := true, recurses := true, apart := false }
def FnExactWidenSetSaid : Prop := fnExactWidenSetRow.holds Try.pinned (OpenSpec.ofChange fnExactWidenSetSpec)

/-- ITS FALSE NEIGHBOUR: 'it returns false'. Refute it at one input. -/
def fnExactWidenSetWrong : ChangeSpec := { name := "fnExactWidenSet", fn := fun _ => fun
  | [d] => { results := [.lit (.bool false)], args := [d] }
  | _ => none }
def FnExactWidenSetWrongFalsely : Prop := fnExactWidenSetRow.holds Try.pinned (OpenSpec.ofChange fnExactWidenSetWrong)

/-- 'laws.FnExactActOnSet': WHATEVER THE INPUT: true; the input reads as it did. -/
def fnExactActOnSetSpec : ChangeSpec := { name := "fnExactActOnSet", fn := fun _ => fun
  | [d1, d2] => { results := [.lit (.bool true)], args := [d1, d2] }
  | _ => none }
def fnExactActOnSetRow : OpenClaim := { program := "ytdbogjhkcnajkaa", sum := "b6893787e36f9b0163bb403f8d1899b7b02fb392f7901d22682bf16b4264c9cf", func := "loop.example/g03112/laws.FnExactActOnSet", spec := "fnExactActOnSet", unfollowed := true, recurses := true, apart := false }
def FnExactActOnSetSaid : Prop := fnExactActOnSetRow.holds Try.pinned (OpenSpec.ofChange fnExactActOnSetSpec)

/-- ITS FALSE NEIGHBOUR: 'it returns false'. Refute it at one input. -/
def fnExactActOnSetWrong : ChangeSpec := { name := "fnExactActOnSet", fn := fun _ => fun
  | [d1, d2] => { results := [.lit (.bool false)], args := [d1, d2] }
  | _ => none }
def FnExactActOnSetWrongFalsely : Prop := fnExactActOnSetRow.holds Try.pinned (OpenSpec.ofChange fnExactActOnSetWrong)

/-- 'laws.FnExactReducedSet': WHATEVER THE INPUT: true; the input reads as it did. -/
def fnExactReducedSetSpec : ChangeSpec := { name := "fnExactReducedSet", fn := fun _ => fun
  | [d] => { results := [.lit (.bool true)], args := [d] }
  | _ => none }
def fnExactReducedSetRow : OpenClaim := { program := "ytdbogjhkcnajkaa", sum := "b6893787e36f9b0163bb403f8d1899b7b02fb392f7901d22682bf16b4264c9cf", func := "loop.example/g03112/laws.FnExactReducedSet", spec := "fnExactReducedSet", unfollowed := true, recurses := true, apart := false }
def FnExactReducedSetSaid : Prop := fnExactReducedSetRow.holds Try.pinned (OpenSpec.ofChange fnExactReducedSetSpec)

/-- ITS FALSE NEIGHBOUR: 'it returns false'. Refute it at one input. -/
def fnExactReducedSetWrong : ChangeSpec := { name := "fnExactReducedSet", fn := fun _ => fun
  | [d] => { results := [.lit (.bool false)], args := [d] }
  | _ => none }
def FnExactReducedSetWrongFalsely : Prop := fnExactReducedSetRow.holds Try.pinned (OpenSpec.ofChange fnExactReducedSetWrong)

/-- 'laws.FnExactSameSet': WHATEVER THE INPUT: true; the input reads as it did. -/
def fnExactSameSetSpec : ChangeSpec := { name := "fnExactSameSet", fn := fun _ => fun
  | [d1, d2] => { results := [.lit (.bool true)], args := [d1, d2] }
  | _ => none }
def fnExactSameSetRow : OpenClaim := { program := "ytdbogjhkcnajkaa", sum := "b6893787e36f9b0163bb403f8d1899b7b02fb392f7901d22682bf16b4264c9cf", func := "loop.example/g03112/laws.FnExactSameSet", spec := "fnExactSameSet", unfollowed := true, recurses := true, apart := false }
def FnExactSameSetSaid : Prop := fnExactSameSetRow.holds Try.pinned (OpenSpec.ofChange fnExactSameSetSpec)

/-- ITS FALSE NEIGHBOUR: 'it returns false'. Refute it at one input. -/
def fnExactSameSetWrong : ChangeSpec := { name := "fnExactSameSet", fn := fun _ => fun
  | [d1, d2] => { results := [.lit (.bool false)], args := [d1, d2] }
  | _ => none }
def FnExactSameSetWrongFalsely : Prop := fnExactSameSetRow.holds Try.pinned (OpenSpec.ofChange fnExactSameSetWrong)

/-- 'laws.FnExactSetOfFormula': WHATEVER THE INPUT: true; the input reads as it did. -/
def fnExactSetOfFormulaSpec : ChangeSpec := { name := "fnExactSetOfFormula", fn := fun _ => fun
  | [d1, d2] => { results := [.lit (.bool true)], args := [d1, d2] }
  | _ => none }
def fnExactSetOfFormulaRow : OpenClaim := { program := "ytdbogjhkcnajkaa", sum := "b6893787e36f9b0163bb403f8d1899b7b02fb392f7901d22682bf16b4264c9cf", func := "loop.example/g03112/laws.FnExactSetOfFormula", spec := "fnExactSetOfFormula", unfollowed := true, recurses := true, loops := true, apart := false }
def FnExactSetOfFormulaSaid : Prop := fnExactSetOfFormulaRow.holds Try.pinned (OpenSpec.ofChange fnExactSetOfFormulaSpec)

/-- ITS FALSE NEIGHBOUR: 'it returns false'. Refute it at one input. -/
def fnExactSetOfFormulaWrong : ChangeSpec := { name := "fnExactSetOfFormula", fn := fun _ => fun
  | [d1, d2] => { results := [.lit (.bool false)], args := [d1, d2] }
  | _ => none }
def FnExactSetOfFormulaWrongFalsely : Prop := fnExactSetOfFormulaRow.holds Try.pinned (OpenSpec.ofChange fnExactSetOfFormulaWrong)

/- THE SECOND FORM. 'bulk': how many values and letters a reading holds, each counted each time it is reached (what is shared counts as often as it is met; a slice's spare places count too). A statement '..UptoSaid' is the law's where the arguments, and the package variables that the reading takes, are together of bulk at most 1048576: NARROWER than '..Said'. Prove '..Said' where nothing that the law and all that it calls make is longer than what came in: it says more and counts as full. Else prove '..UptoSaid'. A law counts once. -/
mutual
def uptoBulk {H : Type} : DataW H → Nat
  | .lit (.string bytes) => bytes.length + 1
  | .lit _ => 1
  | .nil => 1
  | .ptr d => uptoBulk d + 1
  | .slice elems spare => uptoBulkAll elems + uptoBulkAll spare + 1
  | .agg parts => uptoBulkAll parts + 1
  | .iface _ d => uptoBulk d + 1
  | .map entries => uptoBulkEntries entries + 1
  | .held _ => 1
def uptoBulkAll {H : Type} : List (DataW H) → Nat
  | [] => 0
  | d :: r => uptoBulk d + uptoBulkAll r
def uptoBulkEntries {H : Type} : List (Lit × DataW H) → Nat
  | [] => 0
  | x :: r => uptoBulkEntry x + uptoBulkEntries r
def uptoBulkEntry {H : Type} : Lit × DataW H → Nat
  | (.string bytes, d) => bytes.length + uptoBulk d + 1
  | (_, d) => uptoBulk d + 1
 end
def uptoSmall : (H : Type) → List (DataW H) → Bool := fun _ ds => decide (uptoBulkAll ds ≤ 1048576)
def OpenSpec.upto (s : _root_.Go.ChangeSpec) : _root_.Go.OpenSpec := { _root_.Go.OpenSpec.ofChange s with cond := some uptoSmall }

/-- 'laws.FnExactPatternsOf', WHERE WHAT IT READS IS OF BULK AT MOST 1048576: true; the input reads as it did. -/
def fnExactPatternsOfUptoRow : OpenClaim := { program := "ytdbogjhkcnajkaa", sum := "b6893787e36f9b0163bb403f8d1899b7b02fb392f7901d22682bf16b4264c9cf", func := "loop.example/g03112/laws.FnExactPatternsOf", spec := "fnExactPatternsOf", unfollowed := true, recurses := true, apart := false, narrowed := true }
def FnExactPatternsOfUptoSaid : Prop := fnExactPatternsOfUptoRow.holds Try.pinned (OpenSpec.upto fnExactPatternsOfSpec)

/-- 'laws.FnExactSetOf', WHERE WHAT IT READS IS OF BULK AT MOST 1048576: true; the input reads as it did. -/
def fnExactSetOfUptoRow : OpenClaim := { program := "ytdbogjhkcnajkaa", sum := "b6893787e36f9b0163bb403f8d1899b7b02fb392f7901d22682bf16b4264c9cf", func := "loop.example/g03112/laws.FnExactSetOf", spec := "fnExactSetOf", unfollowed := true, recurses := true, apart := false, narrowed := true }
def FnExactSetOfUptoSaid : Prop := fnExactSetOfUptoRow.holds Try.pinned (OpenSpec.upto fnExactSetOfSpec)

/-- 'laws.FnExactExtendSet', WHERE WHAT IT READS IS OF BULK AT MOST 1048576: true; the input reads as it did. -/
def fnExactExtendSetUptoRow : OpenClaim := { program := "ytdbogjhkcnajkaa", sum := "b6893787e36f9b0163bb403f8d1899b7b02fb392f7901d22682bf16b4264c9cf", func := "loop.example/g03112/laws.FnExactExtendSet", spec := "fnExactExtendSet", unfollowed := true, recurses := true, apart := false, narrowed := true }
def FnExactExtendSetUptoSaid : Prop := fnExactExtendSetUptoRow.holds Try.pinned (OpenSpec.upto fnExactExtendSetSpec)

/-- 'laws.FnExactUniteSets', WHERE WHAT IT READS IS OF BULK AT MOST 1048576: true; the input reads as it did. -/
def fnExactUniteSetsUptoRow : OpenClaim := { program := "ytdbogjhkcnajkaa", sum := "b6893787e36f9b0163bb403f8d1899b7b02fb392f7901d22682bf16b4264c9cf", func := "loop.example/g03112/laws.FnExactUniteSets", spec := "fnExactUniteSets", unfollowed := true, recurses := true, apart := false, narrowed := true }
def FnExactUniteSetsUptoSaid : Prop := fnExactUniteSetsUptoRow.holds Try.pinned (OpenSpec.upto fnExactUniteSetsSpec)

/-- 'laws.FnExactMeetSets', WHERE WHAT IT READS IS OF BULK AT MOST 1048576: true; the input reads as it did. -/
def fnExactMeetSetsUptoRow : OpenClaim := { program := "ytdbogjhkcnajkaa", sum := "b6893787e36f9b0163bb403f8d1899b7b02fb392f7901d22682bf16b4264c9cf", func := "loop.example/g03112/laws.FnExactMeetSets", spec := "fnExactMeetSets", unfollowed := true, recurses := true, apart := false, narrowed := true }
def FnExactMeetSetsUptoSaid : Prop := fnExactMeetSetsUptoRow.holds Try.pinned (OpenSpec.upto fnExactMeetSetsSpec)

/-- 'laws.FnExactComplementSet', WHERE WHAT IT READS IS OF BULK AT MOST 1048576: true; the input reads as it did. -/
def fnExactComplementSetUptoRow : OpenClaim := { program := "ytdbogjhkcnajkaa", sum := "b6893787e36f9b0163bb403f8d1899b7b02fb392f7901d22682bf16b4264c9cf", func := "loop.example/g03112/laws.FnExactComplementSet", spec := "fnExactComplementSet", unfollowed := true, recurses := true, apart := false, narrowed := true }
def FnExactComplementSetUptoSaid : Prop := fnExactComplementSetUptoRow.holds Try.pinned (OpenSpec.upto fnExactComplementSetSpec)

/-- 'laws.FnExactPlacesOfSet', WHERE WHAT IT READS IS OF BULK AT MOST 1048576: true; the input reads as it did. -/
def fnExactPlacesOfSetUptoRow : OpenClaim := { program := "ytdbogjhkcnajkaa", sum := "b6893787e36f9b0163bb403f8d1899b7b02fb392f7901d22682bf16b4264c9cf", func := "loop.example/g03112/laws.FnExactPlacesOfSet", spec := "fnExactPlacesOfSet", unfollowed := true, recurses := true, apart := false, narrowed := true }
def FnExactPlacesOfSetUptoSaid : Prop := fnExactPlacesOfSetUptoRow.holds Try.pinned (OpenSpec.upto fnExactPlacesOfSetSpec)

/-- 'laws.FnExactWidenSet', WHERE WHAT IT READS IS OF BULK AT MOST 1048576: true; the input reads as it did. -/
def fnExactWidenSetUptoRow : OpenClaim := { program := "ytdbogjhkcnajkaa", sum := "b6893787e36f9b0163bb403f8d1899b7b02fb392f7901d22682bf16b4264c9cf", func := "loop.example/g03112/laws.FnExactWidenSet", spec := "fnExactWidenSet", unfollowed := true, recurses := true, apart := false, narrowed := true }
def FnExactWidenSetUptoSaid : Prop := fnExactWidenSetUptoRow.holds Try.pinned (OpenSpec.upto fnExactWidenSetSpec)

/-- 'laws.FnExactActOnSet', WHERE WHAT IT READS IS OF BULK AT MOST 1048576: true; the input reads as it did. -/
def fnExactActOnSetUptoRow : OpenClaim := { program := "ytdbogjhkcnajkaa", sum := "b6893787e36f9b0163bb403f8d1899b7b02fb392f7901d22682bf16b4264c9cf", func := "loop.example/g03112/laws.FnExactActOnSet", spec := "fnExactActOnSet", unfollowed := true, recurses := true, apart := false, narrowed := true }
def FnExactActOnSetUptoSaid : Prop := fnExactActOnSetUptoRow.holds Try.pinned (OpenSpec.upto fnExactActOnSetSpec)

/-- 'laws.FnExactReducedSet', WHERE WHAT IT READS IS OF BULK AT MOST 1048576: true; the input reads as it did. -/
def fnExactReducedSetUptoRow : OpenClaim := { program := "ytdbogjhkcnajkaa", sum := "b6893787e36f9b0163bb403f8d1899b7b02fb392f7901d22682bf16b4264c9cf", func := "loop.example/g03112/laws.FnExactReducedSet", spec := "fnExactReducedSet", unfollowed := true, recurses := true, apart := false, narrowed := true }
def FnExactReducedSetUptoSaid : Prop := fnExactReducedSetUptoRow.holds Try.pinned (OpenSpec.upto fnExactReducedSetSpec)

/-- 'laws.FnExactSameSet', WHERE WHAT IT READS IS OF BULK AT MOST 1048576: true; the input reads as it did. -/
def fnExactSameSetUptoRow : OpenClaim := { program := "ytdbogjhkcnajkaa", sum := "b6893787e36f9b0163bb403f8d1899b7b02fb392f7901d22682bf16b4264c9cf", func := "loop.example/g03112/laws.FnExactSameSet", spec := "fnExactSameSet", unfollowed := true, recurses := true, apart := false, narrowed := true }
def FnExactSameSetUptoSaid : Prop := fnExactSameSetUptoRow.holds Try.pinned (OpenSpec.upto fnExactSameSetSpec)

/-- 'laws.FnExactSetOfFormula', WHERE WHAT IT READS IS OF BULK AT MOST 1048576: true; the input reads as it did. -/
def fnExactSetOfFormulaUptoRow : OpenClaim := { program := "ytdbogjhkcnajkaa", sum := "b6893787e36f9b0163bb403f8d1899b7b02fb392f7901d22682bf16b4264c9cf", func := "loop.example/g03112/laws.FnExactSetOfFormula", spec := "fnExactSetOfFormula", unfollowed := true, recurses := true, loops := true, apart := false, narrowed := true }
def FnExactSetOfFormulaUptoSaid : Prop := fnExactSetOfFormulaUptoRow.holds Try.pinned (OpenSpec.upto fnExactSetOfFormulaSpec)

end Rows
end Go.Proofs.Ytdbogjhkcnajkaa
