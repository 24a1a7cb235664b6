/-
  NARROWER THAN 'FOR EVERY INPUT', by the rows' own cells (each row's printed sentence says how): FnExactComesOf: loops · FnExactReplaceAtom: loops · FnExactTermOf: loops · FnExactStepNames: loops · FnExactRunNames: loops.
  DERIVED. THE GIVEN ROWS OF THIS SEAT. 5 by the template 'for every input the law returns true; each argument reads behind the call as it read before'; 0 by the template 'total and deterministic' (their statements: YtlhjgjfnmejiaaaGreatTotals.lean).
  GIVEN WITH THE SEED: the statements are not yours to turn. If you find one false, say at which input.
  Laid BY PROGRAM, IN A SANDBOX (cutbox-rows.mjs): the forced cells as the released guide's own fill.sh prints them over the translation e443df66849342cd… (all of the seat's roots in one cut). By AI agents, Wed Nov 11 2026. No macro, syntax, notation, axiom, sorry.
-/
import Derived.Test.YtlhjgjfnmejiaaaGreatChecked
import GoSem.Claim
import GoSem.ClaimJoined
import GoSem.ClaimMapViews
import Derived.JoinedTies
import Derived.KernelRfl
namespace Go.Proofs.YtlhjgjfnmejiaaaGreat
/- THE CELL 'sum', in the pinned program and in every row, IS THE sha256 OF THE DUMP (.gsa) THAT YtlhjgjfnmejiaaaGreatProg.lean LOADS. Nothing in Lean hashes anything: it is a label: what it is worth is what the hold of that sum in a sandbox is worth. -/
noncomputable def Tryz.pinned : Pinned := { name := "ytlhjgjfnmejiaaagreat", sum := "e443df66849342cddf0dec955c291dad24fd564c508f1f62f3fcb9e13db11082", checked := Tryz.checked }
namespace Rows
def none {H : Type} : Left H := { results := [], args := [] }

/-- 'laws.FnExactComesOf': WHATEVER THE INPUT: true; the input reads as it did. -/
def fnExactComesOfSpec : ChangeSpec := { name := "fnExactComesOf", fn := fun _ => fun
  | [d1, d2] => { results := [.lit (.bool true)], args := [d1, d2] }
  | _ => none }
def fnExactComesOfRow : OpenClaim := { program := "ytlhjgjfnmejiaaagreat", sum := "e443df66849342cddf0dec955c291dad24fd564c508f1f62f3fcb9e13db11082", func := "loop.example/g03112/laws.FnExactComesOf", spec := "fnExactComesOf", unfollowed := true, recurses := true, loops := true, plainKeys := false, apart := false }
def FnExactComesOfSaid : Prop := fnExactComesOfRow.holds Tryz.pinned (OpenSpec.ofChange fnExactComesOfSpec)

/-- ITS FALSE NEIGHBOUR: 'it returns false'. Refute it at one input. -/
def fnExactComesOfWrong : ChangeSpec := { name := "fnExactComesOf", fn := fun _ => fun
  | [d1, d2] => { results := [.lit (.bool false)], args := [d1, d2] }
  | _ => none }
def FnExactComesOfWrongFalsely : Prop := fnExactComesOfRow.holds Tryz.pinned (OpenSpec.ofChange fnExactComesOfWrong)

/-- 'laws.FnExactReplaceAtom': WHATEVER THE INPUT: true; the input reads as it did. -/
def fnExactReplaceAtomSpec : ChangeSpec := { name := "fnExactReplaceAtom", fn := fun _ => fun
  | [d1, d2, d3] => { results := [.lit (.bool true)], args := [d1, d2, d3] }
  | _ => none }
def fnExactReplaceAtomRow : OpenClaim := { program := "ytlhjgjfnmejiaaagreat", sum := "e443df66849342cddf0dec955c291dad24fd564c508f1f62f3fcb9e13db11082", func := "loop.example/g03112/laws.FnExactReplaceAtom", spec := "fnExactReplaceAtom", unfollowed := true, recurses := true, loops := true, plainKeys := false, apart := false }
def FnExactReplaceAtomSaid : Prop := fnExactReplaceAtomRow.holds Tryz.pinned (OpenSpec.ofChange fnExactReplaceAtomSpec)

/-- ITS FALSE NEIGHBOUR: 'it returns false'. Refute it at one input. -/
def fnExactReplaceAtomWrong : ChangeSpec := { name := "fnExactReplaceAtom", fn := fun _ => fun
  | [d1, d2, d3] => { results := [.lit (.bool false)], args := [d1, d2, d3] }
  | _ => none }
def FnExactReplaceAtomWrongFalsely : Prop := fnExactReplaceAtomRow.holds Tryz.pinned (OpenSpec.ofChange fnExactReplaceAtomWrong)

/-- 'laws.FnExactTermOf': WHATEVER THE INPUT: true; the input reads as it did. -/
def fnExactTermOfSpec : ChangeSpec := { name := "fnExactTermOf", fn := fun _ => fun
  | [d] => { results := [.lit (.bool true)], args := [d] }
  | _ => none }
def fnExactTermOfRow : OpenClaim := { program := "ytlhjgjfnmejiaaagreat", sum := "e443df66849342cddf0dec955c291dad24fd564c508f1f62f3fcb9e13db11082", func := "loop.example/g03112/laws.FnExactTermOf", spec := "fnExactTermOf", unfollowed := true, recurses := true, loops := true, plainKeys := false, apart := false }
def FnExactTermOfSaid : Prop := fnExactTermOfRow.holds Tryz.pinned (OpenSpec.ofChange fnExactTermOfSpec)

/-- ITS FALSE NEIGHBOUR: 'it returns false'. Refute it at one input. -/
def fnExactTermOfWrong : ChangeSpec := { name := "fnExactTermOf", fn := fun _ => fun
  | [d] => { results := [.lit (.bool false)], args := [d] }
  | _ => none }
def FnExactTermOfWrongFalsely : Prop := fnExactTermOfRow.holds Tryz.pinned (OpenSpec.ofChange fnExactTermOfWrong)

/-- 'laws.FnExactStepNames': WHATEVER THE INPUT: true; the input reads as it did. -/
def fnExactStepNamesSpec : ChangeSpec := { name := "fnExactStepNames", fn := fun _ => fun
  | [d] => { results := [.lit (.bool true)], args := [d] }
  | _ => none }
def fnExactStepNamesRow : OpenClaim := { program := "ytlhjgjfnmejiaaagreat", sum := "e443df66849342cddf0dec955c291dad24fd564c508f1f62f3fcb9e13db11082", func := "loop.example/g03112/laws.FnExactStepNames", spec := "fnExactStepNames", unfollowed := true, recurses := true, loops := true, plainKeys := false, apart := false }
def FnExactStepNamesSaid : Prop := fnExactStepNamesRow.holds Tryz.pinned (OpenSpec.ofChange fnExactStepNamesSpec)

/-- ITS FALSE NEIGHBOUR: 'it returns false'. Refute it at one input. -/
def fnExactStepNamesWrong : ChangeSpec := { name := "fnExactStepNames", fn := fun _ => fun
  | [d] => { results := [.lit (.bool false)], args := [d] }
  | _ => none }
def FnExactStepNamesWrongFalsely : Prop := fnExactStepNamesRow.holds Tryz.pinned (OpenSpec.ofChange fnExactStepNamesWrong)

/-- 'laws.FnExactRunNames': WHATEVER THE INPUT: true; the input reads as it did. -/
def fnExactRunNamesSpec : ChangeSpec := { name := "fnExactRunNames", fn := fun _ => fun
  | [d1, d2] => { results := [.lit (.bool true)], args := [d1, d2] }
  | _ => none }
def fnExactRunNamesRow : OpenClaim := { program := "ytlhjgjfnmejiaaagreat", sum := "e443df66849342cddf0dec955c291dad24fd564c508f1f62f3fcb9e13db11082", func := "loop.example/g03112/laws.FnExactRunNames", spec := "fnExactRunNames", unfollowed := true, recurses := true, loops := true, plainKeys := false, apart := false }
def FnExactRunNamesSaid : Prop := fnExactRunNamesRow.holds Tryz.pinned (OpenSpec.ofChange fnExactRunNamesSpec)

/-- ITS FALSE NEIGHBOUR: 'it returns false'. Refute it at one input. -/
def fnExactRunNamesWrong : ChangeSpec := { name := "fnExactRunNames", fn := fun _ => fun
  | [d1, d2] => { results := [.lit (.bool false)], args := [d1, d2] }
  | _ => none }
def FnExactRunNamesWrongFalsely : Prop := fnExactRunNamesRow.holds Tryz.pinned (OpenSpec.ofChange fnExactRunNamesWrong)

/- THE SECOND FORM. 'bulk': how many values and letters a reading holds, each counted each time it is reached (what is shared counts as often as it is met; a slice's spare places count too). A statement '..UptoSaid' is the law's where the arguments, and the package variables that the reading takes, are together of bulk at most 1048576: NARROWER than '..Said'. Prove '..Said' where nothing that the law and all that it calls make is longer than what came in: it says more and counts as full. Else prove '..UptoSaid'. A law counts once. -/
mutual
def uptoBulk {H : Type} : DataW H → Nat
  | .lit (.string bytes) => bytes.length + 1
  | .lit _ => 1
  | .nil => 1
  | .ptr d => uptoBulk d + 1
  | .slice elems spare => uptoBulkAll elems + uptoBulkAll spare + 1
  | .agg parts => uptoBulkAll parts + 1
  | .iface _ d => uptoBulk d + 1
  | .map entries => uptoBulkEntries entries + 1
  | .held _ => 1
def uptoBulkAll {H : Type} : List (DataW H) → Nat
  | [] => 0
  | d :: r => uptoBulk d + uptoBulkAll r
def uptoBulkEntries {H : Type} : List (Lit × DataW H) → Nat
  | [] => 0
  | x :: r => uptoBulkEntry x + uptoBulkEntries r
def uptoBulkEntry {H : Type} : Lit × DataW H → Nat
  | (.string bytes, d) => bytes.length + uptoBulk d + 1
  | (_, d) => uptoBulk d + 1
 end
def uptoSmall : (H : Type) → List (DataW H) → Bool := fun _ ds => decide (uptoBulkAll ds ≤ 1048576)
def OpenSpec.upto (s : _root_.Go.ChangeSpec) : _root_.Go.OpenSpec := { _root_.Go.OpenSpec.ofChange s with cond := some uptoSmall }

/-- 'laws.FnExactComesOf', WHERE WHAT IT READS IS OF BULK AT MOST 1048576: true; the input reads as it did. -/
def fnExactComesOfUptoRow : OpenClaim := { program := "ytlhjgjfnmejiaaagreat", sum := "e443df66849342cddf0dec955c291dad24fd564c508f1f62f3fcb9e13db11082", func := "loop.example/g03112/laws.FnExactComesOf", spec := "fnExactComesOf", unfollowed := true, recurses := true, loops := true, plainKeys := false, apart := false, narrowed := true }
def FnExactComesOfUptoSaid : Prop := fnExactComesOfUptoRow.holds Tryz.pinned (OpenSpec.upto fnExactComesOfSpec)

/-- 'laws.FnExactReplaceAtom', WHERE WHAT IT READS IS OF BULK AT MOST 1048576: true; the input reads as it did. -/
def fnExactReplaceAtomUptoRow : OpenClaim := { program := "ytlhjgjfnmejiaaagreat", sum := "e443df66849342cddf0dec955c291dad24fd564c508f1f62f3fcb9e13db11082", func := "loop.example/g03112/laws.FnExactReplaceAtom", spec := "fnExactReplaceAtom", unfollowed := true, recurses := true, loops := true, plainKeys := false, apart := false, narrowed := true }
def FnExactReplaceAtomUptoSaid : Prop := fnExactReplaceAtomUptoRow.holds Tryz.pinned (OpenSpec.upto fnExactReplaceAtomSpec)

/-- 'laws.FnExactTermOf', WHERE WHAT IT READS IS OF BULK AT MOST 1048576: true; the input reads as it did. -/
def fnExactTermOfUptoRow : OpenClaim := { program := "ytlhjgjfnmejiaaagreat", sum := "e443df66849342cddf0dec955c291dad24fd564c508f1f62f3fcb9e13db11082", func := "loop.example/g03112/laws.FnExactTermOf", spec := "fnExactTermOf", unfollowed := true, recurses := true, loops := true, plainKeys := false, apart := false, narrowed := true }
def FnExactTermOfUptoSaid : Prop := fnExactTermOfUptoRow.holds Tryz.pinned (OpenSpec.upto fnExactTermOfSpec)

/-- 'laws.FnExactStepNames', WHERE WHAT IT READS IS OF BULK AT MOST 1048576: true; the input reads as it did. -/
def fnExactStepNamesUptoRow : OpenClaim := { program := "ytlhjgjfnmejiaaagreat", sum := "e443df66849342cddf0dec955c291dad24fd564c508f1f62f3fcb9e13db11082", func := "loop.example/g03112/laws.FnExactStepNames", spec := "fnExactStepNames", unfollowed := true, recurses := true, loops := true, plainKeys := false, apart := false, narrowed := true }
def FnExactStepNamesUptoSaid : Prop := fnExactStepNamesUptoRow.holds Tryz.pinned (OpenSpec.upto fnExactStepNamesSpec)

/-- 'laws.FnExactRunNames', WHERE WHAT IT READS IS OF BULK AT MOST 1048576: true; the input reads as it did. -/
def fnExactRunNamesUptoRow : OpenClaim := { program := "ytlhjgjfnmejiaaagreat", sum := "e443df66849342cddf0dec955c291dad24fd564c508f1f62f3fcb9e13db11082", func := "loop.example/g03112/laws.FnExactRunNames", spec := "fnExactRunNames", unfollowed := true, recurses := true, loops := true, plainKeys := false, apart := false, narrowed := true }
def FnExactRunNamesUptoSaid : Prop := fnExactRunNamesUptoRow.holds Tryz.pinned (OpenSpec.upto fnExactRunNamesSpec)

end Rows
end Go.Proofs.YtlhjgjfnmejiaaaGreat
