/-
  NARROWER THAN 'FOR EVERY INPUT', by the rows' own cells (each row's printed sentence says how): FnExactIsProblem: loops · FnExactHolesIn: loops · FnExactIsSubstitution: loops · FnExactFreshNeeds: loops.
  DERIVED. THE GIVEN ROWS OF THIS SEAT. 7 by the template 'for every input the law returns true; each argument reads behind the call as it read before'; 0 by the template 'total and deterministic' (their statements: YtddmoempagcjeaaTotals.lean).
  GIVEN WITH THE SEED: the statements are not yours to turn. If you find one false, say at which input.
  Laid BY PROGRAM, IN A SANDBOX (cutbox-rows.mjs): the forced cells as the released guide's own fill.sh prints them over the translation ffc8e8dd2d54e3da… (all of the seat's roots in one cut). By AI agents, Wed Nov 11 2026. No macro, syntax, notation, axiom, sorry.
-/
import Derived.Test.YtddmoempagcjeaaChecked
import GoSem.Claim
import GoSem.ClaimJoined
import GoSem.ClaimMapViews
import Derived.JoinedTies
import Derived.KernelRfl
namespace Go.Proofs.Ytddmoempagcjeaa
/- THE CELL 'sum', in the pinned program and in every row, IS THE sha256 OF THE DUMP (.gsa) THAT YtddmoempagcjeaaProg.lean LOADS. Nothing in Lean hashes anything: it is a label: what it is worth is what the hold of that sum in a sandbox is worth. -/
noncomputable def Try.pinned : Pinned := { name := "ytddmoempagcjeaa", sum := "ffc8e8dd2d54e3daebf8febdb8cf2169f8907def79d666eb14f722fc71dc01f6", checked := Try.checked }
namespace Rows
def none {H : Type} : Left H := { results := [], args := [] }

/-- 'laws.FnExactInversePermutation': WHATEVER THE INPUT: true; the input reads as it did. -/
def fnExactInversePermutationSpec : ChangeSpec := { name := "fnExactInversePermutation", fn := fun _ => fun
  | [d] => { results := [.lit (.bool true)], args := [d] }
  | _ => none }
def fnExactInversePermutationRow : OpenClaim := { program := "ytddmoempagcjeaa", sum := "ffc8e8dd2d54e3daebf8febdb8cf2169f8907def79d666eb14f722fc71dc01f6", func := "loop.example/g03112/laws.FnExactInversePermutation", spec := "fnExactInversePermutation", unfollowed := true, recurses := true, plainKeys := false, apart := false }
def FnExactInversePermutationSaid : Prop := fnExactInversePermutationRow.holds Try.pinned (OpenSpec.ofChange fnExactInversePermutationSpec)

/-- ITS FALSE NEIGHBOUR: 'it returns false'. Refute it at one input. -/
def fnExactInversePermutationWrong : ChangeSpec := { name := "fnExactInversePermutation", fn := fun _ => fun
  | [d] => { results := [.lit (.bool false)], args := [d] }
  | _ => none }
def FnExactInversePermutationWrongFalsely : Prop := fnExactInversePermutationRow.holds Try.pinned (OpenSpec.ofChange fnExactInversePermutationWrong)

/-- 'laws.FnComposed': WHATEVER THE INPUT: true; the input reads as it did. -/
def fnComposedSpec : ChangeSpec := { name := "fnComposed", fn := fun _ => fun
  | [d] => { results := [.lit (.bool true)], args := [d] }
  | _ => none }
def fnComposedRow : OpenClaim := { program := "ytddmoempagcjeaa", sum := "ffc8e8dd2d54e3daebf8febdb8cf2169f8907def79d666eb14f722fc71dc01f6", func := "loop.example/g03112/laws.FnComposed", spec := "fnComposed", unfollowed := true, recurses := true, plainKeys := false, apart := false }
def FnComposedSaid : Prop := fnComposedRow.holds Try.pinned (OpenSpec.ofChange fnComposedSpec)

/-- ITS FALSE NEIGHBOUR: 'it returns false'. Refute it at one input. -/
def fnComposedWrong : ChangeSpec := { name := "fnComposed", fn := fun _ => fun
  | [d] => { results := [.lit (.bool false)], args := [d] }
  | _ => none }
def FnComposedWrongFalsely : Prop := fnComposedRow.holds Try.pinned (OpenSpec.ofChange fnComposedWrong)

/-- 'laws.FnExactIsProblem': WHATEVER THE INPUT: true; the input reads as it did. -/
def fnExactIsProblemSpec : ChangeSpec := { name := "fnExactIsProblem", fn := fun _ => fun
  | [d] => { results := [.lit (.bool true)], args := [d] }
  | _ => none }
def fnExactIsProblemRow : OpenClaim := { program := "ytddmoempagcjeaa", sum := "ffc8e8dd2d54e3daebf8febdb8cf2169f8907def79d666eb14f722fc71dc01f6", func := "loop.example/g03112/laws.FnExactIsProblem", spec := "fnExactIsProblem", unfollowed := true, recurses := true, loops := true, plainKeys := false, apart := false }
def FnExactIsProblemSaid : Prop := fnExactIsProblemRow.holds Try.pinned (OpenSpec.ofChange fnExactIsProblemSpec)

/-- ITS FALSE NEIGHBOUR: 'it returns false'. Refute it at one input. -/
def fnExactIsProblemWrong : ChangeSpec := { name := "fnExactIsProblem", fn := fun _ => fun
  | [d] => { results := [.lit (.bool false)], args := [d] }
  | _ => none }
def FnExactIsProblemWrongFalsely : Prop := fnExactIsProblemRow.holds Try.pinned (OpenSpec.ofChange fnExactIsProblemWrong)

/-- 'laws.FnExactHolesIn': WHATEVER THE INPUT: true; the input reads as it did. -/
def fnExactHolesInSpec : ChangeSpec := { name := "fnExactHolesIn", fn := fun _ => fun
  | [d] => { results := [.lit (.bool true)], args := [d] }
  | _ => none }
def fnExactHolesInRow : OpenClaim := { program := "ytddmoempagcjeaa", sum := "ffc8e8dd2d54e3daebf8febdb8cf2169f8907def79d666eb14f722fc71dc01f6", func := "loop.example/g03112/laws.FnExactHolesIn", spec := "fnExactHolesIn", unfollowed := true, recurses := true, loops := true, plainKeys := false, apart := false }
def FnExactHolesInSaid : Prop := fnExactHolesInRow.holds Try.pinned (OpenSpec.ofChange fnExactHolesInSpec)

/-- ITS FALSE NEIGHBOUR: 'it returns false'. Refute it at one input. -/
def fnExactHolesInWrong : ChangeSpec := { name := "fnExactHolesIn", fn := fun _ => fun
  | [d] => { results := [.lit (.bool false)], args := [d] }
  | _ => none }
def FnExactHolesInWrongFalsely : Prop := fnExactHolesInRow.holds Try.pinned (OpenSpec.ofChange fnExactHolesInWrong)

/-- 'laws.FnExactIsSubstitution': WHATEVER THE INPUT: true; the input reads as it did. -/
def fnExactIsSubstitutionSpec : ChangeSpec := { name := "fnExactIsSubstitution", fn := fun _ => fun
  | [d] => { results := [.lit (.bool true)], args := [d] }
  | _ => none }
def fnExactIsSubstitutionRow : OpenClaim := { program := "ytddmoempagcjeaa", sum := "ffc8e8dd2d54e3daebf8febdb8cf2169f8907def79d666eb14f722fc71dc01f6", func := "loop.example/g03112/laws.FnExactIsSubstitution", spec := "fnExactIsSubstitution", unfollowed := true, recurses := true, loops := true, plainKeys := false, apart := false }
def FnExactIsSubstitutionSaid : Prop := fnExactIsSubstitutionRow.holds Try.pinned (OpenSpec.ofChange fnExactIsSubstitutionSpec)

/-- ITS FALSE NEIGHBOUR: 'it returns false'. Refute it at one input. -/
def fnExactIsSubstitutionWrong : ChangeSpec := { name := "fnExactIsSubstitution", fn := fun _ => fun
  | [d] => { results := [.lit (.bool false)], args := [d] }
  | _ => none }
def FnExactIsSubstitutionWrongFalsely : Prop := fnExactIsSubstitutionRow.holds Try.pinned (OpenSpec.ofChange fnExactIsSubstitutionWrong)

/-- 'laws.FnExactMergeContexts': WHATEVER THE INPUT: true; the input reads as it did. -/
def fnExactMergeContextsSpec : ChangeSpec := { name := "fnExactMergeContexts", fn := fun _ => fun
  | [d1, d2] => { results := [.lit (.bool true)], args := [d1, d2] }
  | _ => none }
def fnExactMergeContextsRow : OpenClaim := { program := "ytddmoempagcjeaa", sum := "ffc8e8dd2d54e3daebf8febdb8cf2169f8907def79d666eb14f722fc71dc01f6", func := "loop.example/g03112/laws.FnExactMergeContexts", spec := "fnExactMergeContexts", unfollowed := true, recurses := true, plainKeys := false, apart := false }
def FnExactMergeContextsSaid : Prop := fnExactMergeContextsRow.holds Try.pinned (OpenSpec.ofChange fnExactMergeContextsSpec)

/-- ITS FALSE NEIGHBOUR: 'it returns false'. Refute it at one input. -/
def fnExactMergeContextsWrong : ChangeSpec := { name := "fnExactMergeContexts", fn := fun _ => fun
  | [d1, d2] => { results := [.lit (.bool false)], args := [d1, d2] }
  | _ => none }
def FnExactMergeContextsWrongFalsely : Prop := fnExactMergeContextsRow.holds Try.pinned (OpenSpec.ofChange fnExactMergeContextsWrong)

/-- 'laws.FnExactFreshNeeds': WHATEVER THE INPUT: true; the input reads as it did. -/
def fnExactFreshNeedsSpec : ChangeSpec := { name := "fnExactFreshNeeds", fn := fun _ => fun
  | [d1, d2] => { results := [.lit (.bool true)], args := [d1, d2] }
  | _ => none }
def fnExactFreshNeedsRow : OpenClaim := { program := "ytddmoempagcjeaa", sum := "ffc8e8dd2d54e3daebf8febdb8cf2169f8907def79d666eb14f722fc71dc01f6", func := "loop.example/g03112/laws.FnExactFreshNeeds", spec := "fnExactFreshNeeds", unfollowed := true, recurses := true, loops := true, plainKeys := false, apart := false }
def FnExactFreshNeedsSaid : Prop := fnExactFreshNeedsRow.holds Try.pinned (OpenSpec.ofChange fnExactFreshNeedsSpec)

/-- ITS FALSE NEIGHBOUR: 'it returns false'. Refute it at one input. -/
def fnExactFreshNeedsWrong : ChangeSpec := { name := "fnExactFreshNeeds", fn := fun _ => fun
  | [d1, d2] => { results := [.lit (.bool false)], args := [d1, d2] }
  | _ => none }
def FnExactFreshNeedsWrongFalsely : Prop := fnExactFreshNeedsRow.holds Try.pinned (OpenSpec.ofChange fnExactFreshNeedsWrong)

/- THE SECOND FORM. 'bulk': how many values and letters a reading holds, each counted each time it is reached (what is shared counts as often as it is met; a slice's spare places count too). A statement '..UptoSaid' is the law's where the arguments, and the package variables that the reading takes, are together of bulk at most 1048576: NARROWER than '..Said'. Prove '..Said' where nothing that the law and all that it calls make is longer than what came in: it says more and counts as full. Else prove '..UptoSaid'. A law counts once. -/
mutual
def uptoBulk {H : Type} : DataW H → Nat
  | .lit (.string bytes) => bytes.length + 1
  | .lit _ => 1
  | .nil => 1
  | .ptr d => uptoBulk d + 1
  | .slice elems spare => uptoBulkAll elems + uptoBulkAll spare + 1
  | .agg parts => uptoBulkAll parts + 1
  | .iface _ d => uptoBulk d + 1
  | .map entries => uptoBulkEntries entries + 1
  | .held _ => 1
def uptoBulkAll {H : Type} : List (DataW H) → Nat
  | [] => 0
  | d :: r => uptoBulk d + uptoBulkAll r
def uptoBulkEntries {H : Type} : List (Lit × DataW H) → Nat
  | [] => 0
  | x :: r => uptoBulkEntry x + uptoBulkEntries r
def uptoBulkEntry {H : Type} : Lit × DataW H → Nat
  | (.string bytes, d) => bytes.length + uptoBulk d + 1
  | (_, d) => uptoBulk d + 1
 end
def uptoSmall : (H : Type) → List (DataW H) → Bool := fun _ ds => decide (uptoBulkAll ds ≤ 1048576)
def OpenSpec.upto (s : _root_.Go.ChangeSpec) : _root_.Go.OpenSpec := { _root_.Go.OpenSpec.ofChange s with cond := some uptoSmall }

/-- 'laws.FnExactInversePermutation', WHERE WHAT IT READS IS OF BULK AT MOST 1048576: true; the input reads as it did. -/
def fnExactInversePermutationUptoRow : OpenClaim := { program := "ytddmoempagcjeaa", sum := "ffc8e8dd2d54e3daebf8febdb8cf2169f8907def79d666eb14f722fc71dc01f6", func := "loop.example/g03112/laws.FnExactInversePermutation", spec := "fnExactInversePermutation", unfollowed := true, recurses := true, plainKeys := false, apart := false, narrowed := true }
def FnExactInversePermutationUptoSaid : Prop := fnExactInversePermutationUptoRow.holds Try.pinned (OpenSpec.upto fnExactInversePermutationSpec)

/-- 'laws.FnComposed', WHERE WHAT IT READS IS OF BULK AT MOST 1048576: true; the input reads as it did. -/
def fnComposedUptoRow : OpenClaim := { program := "ytddmoempagcjeaa", sum := "ffc8e8dd2d54e3daebf8febdb8cf2169f8907def79d666eb14f722fc71dc01f6", func := "loop.example/g03112/laws.FnComposed", spec := "fnComposed", unfollowed := true, recurses := true, plainKeys := false, apart := false, narrowed := true }
def FnComposedUptoSaid : Prop := fnComposedUptoRow.holds Try.pinned (OpenSpec.upto fnComposedSpec)

/-- 'laws.FnExactIsProblem', WHERE WHAT IT READS IS OF BULK AT MOST 1048576: true; the input reads as it did. -/
def fnExactIsProblemUptoRow : OpenClaim := { program := "ytddmoempagcjeaa", sum := "ffc8e8dd2d54e3daebf8febdb8cf2169f8907def79d666eb14f722fc71dc01f6", func := "loop.example/g03112/laws.FnExactIsProblem", spec := "fnExactIsProblem", unfollowed := true, recurses := true, loops := true, plainKeys := false, apart := false, narrowed := true }
def FnExactIsProblemUptoSaid : Prop := fnExactIsProblemUptoRow.holds Try.pinned (OpenSpec.upto fnExactIsProblemSpec)

/-- 'laws.FnExactHolesIn', WHERE WHAT IT READS IS OF BULK AT MOST 1048576: true; the input reads as it did. -/
def fnExactHolesInUptoRow : OpenClaim := { program := "ytddmoempagcjeaa", sum := "ffc8e8dd2d54e3daebf8febdb8cf2169f8907def79d666eb14f722fc71dc01f6", func := "loop.example/g03112/laws.FnExactHolesIn", spec := "fnExactHolesIn", unfollowed := true, recurses := true, loops := true, plainKeys := false, apart := false, narrowed := true }
def FnExactHolesInUptoSaid : Prop := fnExactHolesInUptoRow.holds Try.pinned (OpenSpec.upto fnExactHolesInSpec)

/-- 'laws.FnExactIsSubstitution', WHERE WHAT IT READS IS OF BULK AT MOST 1048576: true; the input reads as it did. -/
def fnExactIsSubstitutionUptoRow : OpenClaim := { program := "ytddmoempagcjeaa", sum := "ffc8e8dd2d54e3daebf8febdb8cf2169f8907def79d666eb14f722fc71dc01f6", func := "loop.example/g03112/laws.FnExactIsSubstitution", spec := "fnExactIsSubstitution", unfollowed := true, recurses := true, loops := true, plainKeys := false, apart := false, narrowed := true }
def FnExactIsSubstitutionUptoSaid : Prop := fnExactIsSubstitutionUptoRow.holds Try.pinned (OpenSpec.upto fnExactIsSubstitutionSpec)

/-- 'laws.FnExactMergeContexts', WHERE WHAT IT READS IS OF BULK AT MOST 1048576: true; the input reads as it did. -/
def fnExactMergeContextsUptoRow : OpenClaim := { program := "ytddmoempagcjeaa", sum := "ffc8e8dd2d54e3daebf8febdb8cf2169f8907def79d666eb14f722fc71dc01f6", func := "loop.example/g03112/laws.FnExactMergeContexts", spec := "fnExactMergeContexts", unfollowed := true, recurses := true, plainKeys := false, apart := false, narrowed := true }
def FnExactMergeContextsUptoSaid : Prop := fnExactMergeContextsUptoRow.holds Try.pinned (OpenSpec.upto fnExactMergeContextsSpec)

/-- 'laws.FnExactFreshNeeds', WHERE WHAT IT READS IS OF BULK AT MOST 1048576: true; the input reads as it did. -/
def fnExactFreshNeedsUptoRow : OpenClaim := { program := "ytddmoempagcjeaa", sum := "ffc8e8dd2d54e3daebf8febdb8cf2169f8907def79d666eb14f722fc71dc01f6", func := "loop.example/g03112/laws.FnExactFreshNeeds", spec := "fnExactFreshNeeds", unfollowed := true, recurses := true, loops := true, plainKeys := false, apart := false, narrowed := true }
def FnExactFreshNeedsUptoSaid : Prop := fnExactFreshNeedsUptoRow.holds Try.pinned (OpenSpec.upto fnExactFreshNeedsSpec)

end Rows
end Go.Proofs.Ytddmoempagcjeaa
