/-
  NARROWER THAN 'FOR EVERY INPUT', by the rows' own cells (each row's printed sentence says how): FnExactIsFormula: loops.
  DERIVED. THE GIVEN ROWS OF THIS SEAT. 6 by the template 'for every input the law returns true; each argument reads behind the call as it read before'; 0 by the template 'total and deterministic' (their statements: YtjjokghcjgighaaTotals.lean).
  GIVEN WITH THE SEED: the statements are not yours to turn. If you find one false, say at which input.
  Laid BY PROGRAM, IN A SANDBOX (cutbox-rows.mjs): the forced cells as the released guide's own fill.sh prints them over the translation b439b7e5bf1585ed… (all of the seat's roots in one cut). By AI agents, Wed Nov 11 2026. No macro, syntax, notation, axiom, sorry.
-/
import Derived.Test.YtjjokghcjgighaaChecked
import GoSem.Claim
import GoSem.ClaimJoined
import GoSem.ClaimMapViews
import Derived.JoinedTies
import Derived.KernelRfl
namespace Go.Proofs.Ytjjokghcjgighaa
/- THE CELL 'sum', in the pinned program and in every row, IS THE sha256 OF THE DUMP (.gsa) THAT YtjjokghcjgighaaProg.lean LOADS. Nothing in Lean hashes anything: it is a label: what it is worth is what the hold of that sum in a sandbox is worth. -/
noncomputable def Try.pinned : Pinned := { name := "ytjjokghcjgighaa", sum := "b439b7e5bf1585edf1d540b66792b67bdd3f8a4d5c8451233a337968a28c8eb8", checked := Try.checked }
namespace Rows
def none {H : Type} : Left H := { results := [], args := [] }

/-- 'laws.FnExactPatternOf': WHATEVER THE INPUT: true; the input reads as it did. -/
def fnExactPatternOfSpec : ChangeSpec := { name := "fnExactPatternOf", fn := fun _ => fun
  | [d1, d2] => { results := [.lit (.bool true)], args := [d1, d2] }
  | _ => none }
def fnExactPatternOfRow : OpenClaim := { program := "ytjjokghcjgighaa", sum := "b439b7e5bf1585edf1d540b66792b67bdd3f8a4d5c8451233a337968a28c8eb8", func := "loop.example/g03112/laws.FnExactPatternOf", spec := "fnExactPatternOf", unfollowed := true, recurses := true, apart := false }
def FnExactPatternOfSaid : Prop := fnExactPatternOfRow.holds Try.pinned (OpenSpec.ofChange fnExactPatternOfSpec)

/-- ITS FALSE NEIGHBOUR: 'it returns false'. Refute it at one input. -/
def fnExactPatternOfWrong : ChangeSpec := { name := "fnExactPatternOf", fn := fun _ => fun
  | [d1, d2] => { results := [.lit (.bool false)], args := [d1, d2] }
  | _ => none }
def FnExactPatternOfWrongFalsely : Prop := fnExactPatternOfRow.holds Try.pinned (OpenSpec.ofChange fnExactPatternOfWrong)

/-- 'laws.FnExactIsOrbitSet': WHATEVER THE INPUT: true; the input reads as it did. -/
def fnExactIsOrbitSetSpec : ChangeSpec := { name := "fnExactIsOrbitSet", fn := fun _ => fun
  | [d] => { results := [.lit (.bool true)], args := [d] }
  | _ => none }
def fnExactIsOrbitSetRow : OpenClaim := { program := "ytjjokghcjgighaa", sum := "b439b7e5bf1585edf1d540b66792b67bdd3f8a4d5c8451233a337968a28c8eb8", func := "loop.example/g03112/laws.FnExactIsOrbitSet", spec := "fnExactIsOrbitSet", unfollowed := true, recurses := true, apart := false }
def FnExactIsOrbitSetSaid : Prop := fnExactIsOrbitSetRow.holds Try.pinned (OpenSpec.ofChange fnExactIsOrbitSetSpec)

/-- ITS FALSE NEIGHBOUR: 'it returns false'. Refute it at one input. -/
def fnExactIsOrbitSetWrong : ChangeSpec := { name := "fnExactIsOrbitSet", fn := fun _ => fun
  | [d] => { results := [.lit (.bool false)], args := [d] }
  | _ => none }
def FnExactIsOrbitSetWrongFalsely : Prop := fnExactIsOrbitSetRow.holds Try.pinned (OpenSpec.ofChange fnExactIsOrbitSetWrong)

/-- 'laws.FnExactHasTuple': WHATEVER THE INPUT: true; the input reads as it did. -/
def fnExactHasTupleSpec : ChangeSpec := { name := "fnExactHasTuple", fn := fun _ => fun
  | [d1, d2] => { results := [.lit (.bool true)], args := [d1, d2] }
  | _ => none }
def fnExactHasTupleRow : OpenClaim := { program := "ytjjokghcjgighaa", sum := "b439b7e5bf1585edf1d540b66792b67bdd3f8a4d5c8451233a337968a28c8eb8", func := "loop.example/g03112/laws.FnExactHasTuple", spec := "fnExactHasTuple", unfollowed := true, recurses := true, apart := false }
def FnExactHasTupleSaid : Prop := fnExactHasTupleRow.holds Try.pinned (OpenSpec.ofChange fnExactHasTupleSpec)

/-- ITS FALSE NEIGHBOUR: 'it returns false'. Refute it at one input. -/
def fnExactHasTupleWrong : ChangeSpec := { name := "fnExactHasTuple", fn := fun _ => fun
  | [d1, d2] => { results := [.lit (.bool false)], args := [d1, d2] }
  | _ => none }
def FnExactHasTupleWrongFalsely : Prop := fnExactHasTupleRow.holds Try.pinned (OpenSpec.ofChange fnExactHasTupleWrong)

/-- 'laws.FnExactExamplesOf': WHATEVER THE INPUT: true; the input reads as it did. -/
def fnExactExamplesOfSpec : ChangeSpec := { name := "fnExactExamplesOf", fn := fun _ => fun
  | [d] => { results := [.lit (.bool true)], args := [d] }
  | _ => none }
def fnExactExamplesOfRow : OpenClaim := { program := "ytjjokghcjgighaa", sum := "b439b7e5bf1585edf1d540b66792b67bdd3f8a4d5c8451233a337968a28c8eb8", func := "loop.example/g03112/laws.FnExactExamplesOf", spec := "fnExactExamplesOf", unfollowed := true, recurses := true, apart := false }
def FnExactExamplesOfSaid : Prop := fnExactExamplesOfRow.holds Try.pinned (OpenSpec.ofChange fnExactExamplesOfSpec)

/-- ITS FALSE NEIGHBOUR: 'it returns false'. Refute it at one input. -/
def fnExactExamplesOfWrong : ChangeSpec := { name := "fnExactExamplesOf", fn := fun _ => fun
  | [d] => { results := [.lit (.bool false)], args := [d] }
  | _ => none }
def FnExactExamplesOfWrongFalsely : Prop := fnExactExamplesOfRow.holds Try.pinned (OpenSpec.ofChange fnExactExamplesOfWrong)

/-- 'laws.FnExactCountTuples': WHATEVER THE INPUT: true; the input reads as it did. -/
def fnExactCountTuplesSpec : ChangeSpec := { name := "fnExactCountTuples", fn := fun _ => fun
  | [d1, d2] => { results := [.lit (.bool true)], args := [d1, d2] }
  | _ => none }
def fnExactCountTuplesRow : OpenClaim := { program := "ytjjokghcjgighaa", sum := "b439b7e5bf1585edf1d540b66792b67bdd3f8a4d5c8451233a337968a28c8eb8", func := "loop.example/g03112/laws.FnExactCountTuples", spec := "fnExactCountTuples", unfollowed := true, recurses := true, apart := false }
def FnExactCountTuplesSaid : Prop := fnExactCountTuplesRow.holds Try.pinned (OpenSpec.ofChange fnExactCountTuplesSpec)

/-- ITS FALSE NEIGHBOUR: 'it returns false'. Refute it at one input. -/
def fnExactCountTuplesWrong : ChangeSpec := { name := "fnExactCountTuples", fn := fun _ => fun
  | [d1, d2] => { results := [.lit (.bool false)], args := [d1, d2] }
  | _ => none }
def FnExactCountTuplesWrongFalsely : Prop := fnExactCountTuplesRow.holds Try.pinned (OpenSpec.ofChange fnExactCountTuplesWrong)

/-- 'laws.FnExactIsFormula': WHATEVER THE INPUT: true; the input reads as it did. -/
def fnExactIsFormulaSpec : ChangeSpec := { name := "fnExactIsFormula", fn := fun _ => fun
  | [d1, d2] => { results := [.lit (.bool true)], args := [d1, d2] }
  | _ => none }
def fnExactIsFormulaRow : OpenClaim := { program := "ytjjokghcjgighaa", sum := "b439b7e5bf1585edf1d540b66792b67bdd3f8a4d5c8451233a337968a28c8eb8", func := "loop.example/g03112/laws.FnExactIsFormula", spec := "fnExactIsFormula", unfollowed := true, recurses := true, loops := true, apart := false }
def FnExactIsFormulaSaid : Prop := fnExactIsFormulaRow.holds Try.pinned (OpenSpec.ofChange fnExactIsFormulaSpec)

/-- ITS FALSE NEIGHBOUR: 'it returns false'. Refute it at one input. -/
def fnExactIsFormulaWrong : ChangeSpec := { name := "fnExactIsFormula", fn := fun _ => fun
  | [d1, d2] => { results := [.lit (.bool false)], args := [d1, d2] }
  | _ => none }
def FnExactIsFormulaWrongFalsely : Prop := fnExactIsFormulaRow.holds Try.pinned (OpenSpec.ofChange fnExactIsFormulaWrong)

/- THE SECOND FORM. 'bulk': how many values and letters a reading holds, each counted each time it is reached (what is shared counts as often as it is met; a slice's spare places count too). A statement '..UptoSaid' is the law's where the arguments, and the package variables that the reading takes, are together of bulk at most 1048576: NARROWER than '..Said'. Prove '..Said' where nothing that the law and all that it calls make is longer than what came in: it says more and counts as full. Else prove '..UptoSaid'. A law counts once. -/
mutual
def uptoBulk {H : Type} : DataW H → Nat
  | .lit (.string bytes) => bytes.length + 1
  | .lit _ => 1
  | .nil => 1
  | .ptr d => uptoBulk d + 1
  | .slice elems spare => uptoBulkAll elems + uptoBulkAll spare + 1
  | .agg parts => uptoBulkAll parts + 1
  | .iface _ d => uptoBulk d + 1
  | .map entries => uptoBulkEntries entries + 1
  | .held _ => 1
def uptoBulkAll {H : Type} : List (DataW H) → Nat
  | [] => 0
  | d :: r => uptoBulk d + uptoBulkAll r
def uptoBulkEntries {H : Type} : List (Lit × DataW H) → Nat
  | [] => 0
  | x :: r => uptoBulkEntry x + uptoBulkEntries r
def uptoBulkEntry {H : Type} : Lit × DataW H → Nat
  | (.string bytes, d) => bytes.length + uptoBulk d + 1
  | (_, d) => uptoBulk d + 1
 end
def uptoSmall : (H : Type) → List (DataW H) → Bool := fun _ ds => decide (uptoBulkAll ds ≤ 1048576)
def OpenSpec.upto (s : _root_.Go.ChangeSpec) : _root_.Go.OpenSpec := { _root_.Go.OpenSpec.ofChange s with cond := some uptoSmall }

/-- 'laws.FnExactPatternOf', WHERE WHAT IT READS IS OF BULK AT MOST 1048576: true; the input reads as it did. -/
def fnExactPatternOfUptoRow : OpenClaim := { program := "ytjjokghcjgighaa", sum := "b439b7e5bf1585edf1d540b66792b67bdd3f8a4d5c8451233a337968a28c8eb8", func := "loop.example/g03112/laws.FnExactPatternOf", spec := "fnExactPatternOf", unfollowed := true, recurses := true, apart := false, narrowed := true }
def FnExactPatternOfUptoSaid : Prop := fnExactPatternOfUptoRow.holds Try.pinned (OpenSpec.upto fnExactPatternOfSpec)

/-- 'laws.FnExactIsOrbitSet', WHERE WHAT IT READS IS OF BULK AT MOST 1048576: true; the input reads as it did. -/
def fnExactIsOrbitSetUptoRow : OpenClaim := { program := "ytjjokghcjgighaa", sum := "b439b7e5bf1585edf1d540b66792b67bdd3f8a4d5c8451233a337968a28c8eb8", func := "loop.example/g03112/laws.FnExactIsOrbitSet", spec := "fnExactIsOrbitSet", unfollowed := true, recurses := true, apart := false, narrowed := true }
def FnExactIsOrbitSetUptoSaid : Prop := fnExactIsOrbitSetUptoRow.holds Try.pinned (OpenSpec.upto fnExactIsOrbitSetSpec)

/-- 'laws.FnExactHasTuple', WHERE WHAT IT READS IS OF BULK AT MOST 1048576: true; the input reads as it did. -/
def fnExactHasTupleUptoRow : OpenClaim := { program := "ytjjokghcjgighaa", sum := "b439b7e5bf1585edf1d540b66792b67bdd3f8a4d5c8451233a337968a28c8eb8", func := "loop.example/g03112/laws.FnExactHasTuple", spec := "fnExactHasTuple", unfollowed := true, recurses := true, apart := false, narrowed := true }
def FnExactHasTupleUptoSaid : Prop := fnExactHasTupleUptoRow.holds Try.pinned (OpenSpec.upto fnExactHasTupleSpec)

/-- 'laws.FnExactExamplesOf', WHERE WHAT IT READS IS OF BULK AT MOST 1048576: true; the input reads as it did. -/
def fnExactExamplesOfUptoRow : OpenClaim := { program := "ytjjokghcjgighaa", sum := "b439b7e5bf1585edf1d540b66792b67bdd3f8a4d5c8451233a337968a28c8eb8", func := "loop.example/g03112/laws.FnExactExamplesOf", spec := "fnExactExamplesOf", unfollowed := true, recurses := true, apart := false, narrowed := true }
def FnExactExamplesOfUptoSaid : Prop := fnExactExamplesOfUptoRow.holds Try.pinned (OpenSpec.upto fnExactExamplesOfSpec)

/-- 'laws.FnExactCountTuples', WHERE WHAT IT READS IS OF BULK AT MOST 1048576: true; the input reads as it did. -/
def fnExactCountTuplesUptoRow : OpenClaim := { program := "ytjjokghcjgighaa", sum := "b439b7e5bf1585edf1d540b66792b67bdd3f8a4d5c8451233a337968a28c8eb8", func := "loop.example/g03112/laws.FnExactCountTuples", spec := "fnExactCountTuples", unfollowed := true, recurses := true, apart := false, narrowed := true }
def FnExactCountTuplesUptoSaid : Prop := fnExactCountTuplesUptoRow.holds Try.pinned (OpenSpec.upto fnExactCountTuplesSpec)

/-- 'laws.FnExactIsFormula', WHERE WHAT IT READS IS OF BULK AT MOST 1048576: true; the input reads as it did. -/
def fnExactIsFormulaUptoRow : OpenClaim := { program := "ytjjokghcjgighaa", sum := "b439b7e5bf1585edf1d540b66792b67bdd3f8a4d5c8451233a337968a28c8eb8", func := "loop.example/g03112/laws.FnExactIsFormula", spec := "fnExactIsFormula", unfollowed := true, recurses := true, loops := true, apart := false, narrowed := true }
def FnExactIsFormulaUptoSaid : Prop := fnExactIsFormulaUptoRow.holds Try.pinned (OpenSpec.upto fnExactIsFormulaSpec)

end Rows
end Go.Proofs.Ytjjokghcjgighaa
