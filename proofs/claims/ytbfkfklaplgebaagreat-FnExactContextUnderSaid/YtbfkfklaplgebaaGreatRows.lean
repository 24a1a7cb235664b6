/-
  NARROWER THAN 'FOR EVERY INPUT', by the rows' own cells (each row's printed sentence says how): FnExactAlphaEqual: loops · FnExactCanonicalTerm: loops · FnExactEqualNeeds: loops · FnExactFreshIn: loops · FnExactEqualIn: loops · FnExactApplySubstitution: loops · FnExactContextUnder: loops · FnExactHoldsFor: loops.
  DERIVED. THE GIVEN ROWS OF THIS SEAT. 8 by the template 'for every input the law returns true; each argument reads behind the call as it read before'; 0 by the template 'total and deterministic' (their statements: YtbfkfklaplgebaaGreatTotals.lean).
  GIVEN WITH THE SEED: the statements are not yours to turn. If you find one false, say at which input.
  Laid BY PROGRAM, IN A SANDBOX (cutbox-rows.mjs): the forced cells as the released guide's own fill.sh prints them over the translation 53dd15935c41319c… (all of the seat's roots in one cut). By AI agents, Wed Nov 11 2026. No macro, syntax, notation, axiom, sorry.
-/
import Derived.Test.YtbfkfklaplgebaaGreatChecked
import GoSem.Claim
import GoSem.ClaimJoined
import GoSem.ClaimMapViews
import Derived.JoinedTies
import Derived.KernelRfl
namespace Go.Proofs.YtbfkfklaplgebaaGreat
/- THE CELL 'sum', in the pinned program and in every row, IS THE sha256 OF THE DUMP (.gsa) THAT YtbfkfklaplgebaaGreatProg.lean LOADS. Nothing in Lean hashes anything: it is a label: what it is worth is what the hold of that sum in a sandbox is worth. -/
noncomputable def Tryz.pinned : Pinned := { name := "ytbfkfklaplgebaagreat", sum := "53dd15935c41319c1161b21ce85bb0f7b084da1312b6eb700cc9261b3cff3970", checked := Tryz.checked }
namespace Rows
def none {H : Type} : Left H := { results := [], args := [] }

/-- 'laws.FnExactAlphaEqual': WHATEVER THE INPUT: true; the input reads as it did. -/
def fnExactAlphaEqualSpec : ChangeSpec := { name := "fnExactAlphaEqual", fn := fun _ => fun
  | [d1, d2] => { results := [.lit (.bool true)], args := [d1, d2] }
  | _ => none }
def fnExactAlphaEqualRow : OpenClaim := { program := "ytbfkfklaplgebaagreat", sum := "53dd15935c41319c1161b21ce85bb0f7b084da1312b6eb700cc9261b3cff3970", func := "loop.example/g03112/laws.FnExactAlphaEqual", spec := "fnExactAlphaEqual", unfollowed := true, recurses := true, loops := true, plainKeys := false, apart := false }
def FnExactAlphaEqualSaid : Prop := fnExactAlphaEqualRow.holds Tryz.pinned (OpenSpec.ofChange fnExactAlphaEqualSpec)

/-- ITS FALSE NEIGHBOUR: 'it returns false'. Refute it at one input. -/
def fnExactAlphaEqualWrong : ChangeSpec := { name := "fnExactAlphaEqual", fn := fun _ => fun
  | [d1, d2] => { results := [.lit (.bool false)], args := [d1, d2] }
  | _ => none }
def FnExactAlphaEqualWrongFalsely : Prop := fnExactAlphaEqualRow.holds Tryz.pinned (OpenSpec.ofChange fnExactAlphaEqualWrong)

/-- 'laws.FnExactCanonicalTerm': WHATEVER THE INPUT: true; the input reads as it did. -/
def fnExactCanonicalTermSpec : ChangeSpec := { name := "fnExactCanonicalTerm", fn := fun _ => fun
  | [d] => { results := [.lit (.bool true)], args := [d] }
  | _ => none }
def fnExactCanonicalTermRow : OpenClaim := { program := "ytbfkfklaplgebaagreat", sum := "53dd15935c41319c1161b21ce85bb0f7b084da1312b6eb700cc9261b3cff3970", func := "loop.example/g03112/laws.FnExactCanonicalTerm", spec := "fnExactCanonicalTerm", unfollowed := true, recurses := true, loops := true, plainKeys := false, apart := false }
def FnExactCanonicalTermSaid : Prop := fnExactCanonicalTermRow.holds Tryz.pinned (OpenSpec.ofChange fnExactCanonicalTermSpec)

/-- ITS FALSE NEIGHBOUR: 'it returns false'. Refute it at one input. -/
def fnExactCanonicalTermWrong : ChangeSpec := { name := "fnExactCanonicalTerm", fn := fun _ => fun
  | [d] => { results := [.lit (.bool false)], args := [d] }
  | _ => none }
def FnExactCanonicalTermWrongFalsely : Prop := fnExactCanonicalTermRow.holds Tryz.pinned (OpenSpec.ofChange fnExactCanonicalTermWrong)

/-- 'laws.FnExactEqualNeeds': WHATEVER THE INPUT: true; the input reads as it did. -/
def fnExactEqualNeedsSpec : ChangeSpec := { name := "fnExactEqualNeeds", fn := fun _ => fun
  | [d1, d2] => { results := [.lit (.bool true)], args := [d1, d2] }
  | _ => none }
def fnExactEqualNeedsRow : OpenClaim := { program := "ytbfkfklaplgebaagreat", sum := "53dd15935c41319c1161b21ce85bb0f7b084da1312b6eb700cc9261b3cff3970", func := "loop.example/g03112/laws.FnExactEqualNeeds", spec := "fnExactEqualNeeds", unfollowed := true, recurses := true, loops := true, plainKeys := false, apart := false }
def FnExactEqualNeedsSaid : Prop := fnExactEqualNeedsRow.holds Tryz.pinned (OpenSpec.ofChange fnExactEqualNeedsSpec)

/-- ITS FALSE NEIGHBOUR: 'it returns false'. Refute it at one input. -/
def fnExactEqualNeedsWrong : ChangeSpec := { name := "fnExactEqualNeeds", fn := fun _ => fun
  | [d1, d2] => { results := [.lit (.bool false)], args := [d1, d2] }
  | _ => none }
def FnExactEqualNeedsWrongFalsely : Prop := fnExactEqualNeedsRow.holds Tryz.pinned (OpenSpec.ofChange fnExactEqualNeedsWrong)

/-- 'laws.FnExactFreshIn': WHATEVER THE INPUT: true; the input reads as it did. -/
def fnExactFreshInSpec : ChangeSpec := { name := "fnExactFreshIn", fn := fun _ => fun
  | [d1, d2, d3] => { results := [.lit (.bool true)], args := [d1, d2, d3] }
  | _ => none }
def fnExactFreshInRow : OpenClaim := { program := "ytbfkfklaplgebaagreat", sum := "53dd15935c41319c1161b21ce85bb0f7b084da1312b6eb700cc9261b3cff3970", func := "loop.example/g03112/laws.FnExactFreshIn", spec := "fnExactFreshIn", unfollowed := true, recurses := true, loops := true, plainKeys := false, apart := false }
def FnExactFreshInSaid : Prop := fnExactFreshInRow.holds Tryz.pinned (OpenSpec.ofChange fnExactFreshInSpec)

/-- ITS FALSE NEIGHBOUR: 'it returns false'. Refute it at one input. -/
def fnExactFreshInWrong : ChangeSpec := { name := "fnExactFreshIn", fn := fun _ => fun
  | [d1, d2, d3] => { results := [.lit (.bool false)], args := [d1, d2, d3] }
  | _ => none }
def FnExactFreshInWrongFalsely : Prop := fnExactFreshInRow.holds Tryz.pinned (OpenSpec.ofChange fnExactFreshInWrong)

/-- 'laws.FnExactEqualIn': WHATEVER THE INPUT: true; the input reads as it did. -/
def fnExactEqualInSpec : ChangeSpec := { name := "fnExactEqualIn", fn := fun _ => fun
  | [d1, d2, d3] => { results := [.lit (.bool true)], args := [d1, d2, d3] }
  | _ => none }
def fnExactEqualInRow : OpenClaim := { program := "ytbfkfklaplgebaagreat", sum := "53dd15935c41319c1161b21ce85bb0f7b084da1312b6eb700cc9261b3cff3970", func := "loop.example/g03112/laws.FnExactEqualIn", spec := "fnExactEqualIn", unfollowed := true, recurses := true, loops := true, plainKeys := false, apart := false }
def FnExactEqualInSaid : Prop := fnExactEqualInRow.holds Tryz.pinned (OpenSpec.ofChange fnExactEqualInSpec)

/-- ITS FALSE NEIGHBOUR: 'it returns false'. Refute it at one input. -/
def fnExactEqualInWrong : ChangeSpec := { name := "fnExactEqualIn", fn := fun _ => fun
  | [d1, d2, d3] => { results := [.lit (.bool false)], args := [d1, d2, d3] }
  | _ => none }
def FnExactEqualInWrongFalsely : Prop := fnExactEqualInRow.holds Tryz.pinned (OpenSpec.ofChange fnExactEqualInWrong)

/-- 'laws.FnExactApplySubstitution': WHATEVER THE INPUT: true; the input reads as it did. -/
def fnExactApplySubstitutionSpec : ChangeSpec := { name := "fnExactApplySubstitution", fn := fun _ => fun
  | [d1, d2] => { results := [.lit (.bool true)], args := [d1, d2] }
  | _ => none }
def fnExactApplySubstitutionRow : OpenClaim := { program := "ytbfkfklaplgebaagreat", sum := "53dd15935c41319c1161b21ce85bb0f7b084da1312b6eb700cc9261b3cff3970", func := "loop.example/g03112/laws.FnExactApplySubstitution", spec := "fnExactApplySubstitution", unfollowed := true, recurses := true, loops := true, plainKeys := false, apart := false }
def FnExactApplySubstitutionSaid : Prop := fnExactApplySubstitutionRow.holds Tryz.pinned (OpenSpec.ofChange fnExactApplySubstitutionSpec)

/-- ITS FALSE NEIGHBOUR: 'it returns false'. Refute it at one input. -/
def fnExactApplySubstitutionWrong : ChangeSpec := { name := "fnExactApplySubstitution", fn := fun _ => fun
  | [d1, d2] => { results := [.lit (.bool false)], args := [d1, d2] }
  | _ => none }
def FnExactApplySubstitutionWrongFalsely : Prop := fnExactApplySubstitutionRow.holds Tryz.pinned (OpenSpec.ofChange fnExactApplySubstitutionWrong)

/-- 'laws.FnExactContextUnder': WHATEVER THE INPUT: true; the input reads as it did. -/
def fnExactContextUnderSpec : ChangeSpec := { name := "fnExactContextUnder", fn := fun _ => fun
  | [d1, d2] => { results := [.lit (.bool true)], args := [d1, d2] }
  | _ => none }
def fnExactContextUnderRow : OpenClaim := { program := "ytbfkfklaplgebaagreat", sum := "53dd15935c41319c1161b21ce85bb0f7b084da1312b6eb700cc9261b3cff3970", func := "loop.example/g03112/laws.FnExactContextUnder", spec := "fnExactContextUnder", unfollowed := true, recurses := true, loops := true, plainKeys := false, apart := false }
def FnExactContextUnderSaid : Prop := fnExactContextUnderRow.holds Tryz.pinned (OpenSpec.ofChange fnExactContextUnderSpec)

/-- ITS FALSE NEIGHBOUR: 'it returns false'. Refute it at one input. -/
def fnExactContextUnderWrong : ChangeSpec := { name := "fnExactContextUnder", fn := fun _ => fun
  | [d1, d2] => { results := [.lit (.bool false)], args := [d1, d2] }
  | _ => none }
def FnExactContextUnderWrongFalsely : Prop := fnExactContextUnderRow.holds Tryz.pinned (OpenSpec.ofChange fnExactContextUnderWrong)

/-- 'laws.FnExactHoldsFor': WHATEVER THE INPUT: true; the input reads as it did. -/
def fnExactHoldsForSpec : ChangeSpec := { name := "fnExactHoldsFor", fn := fun _ => fun
  | [d1, d2] => { results := [.lit (.bool true)], args := [d1, d2] }
  | _ => none }
def fnExactHoldsForRow : OpenClaim := { program := "ytbfkfklaplgebaagreat", sum := "53dd15935c41319c1161b21ce85bb0f7b084da1312b6eb700cc9261b3cff3970", func := "loop.example/g03112/laws.FnExactHoldsFor", spec := "fnExactHoldsFor", unfollowed := true, recurses := true, loops := true, plainKeys := false, apart := false }
def FnExactHoldsForSaid : Prop := fnExactHoldsForRow.holds Tryz.pinned (OpenSpec.ofChange fnExactHoldsForSpec)

/-- ITS FALSE NEIGHBOUR: 'it returns false'. Refute it at one input. -/
def fnExactHoldsForWrong : ChangeSpec := { name := "fnExactHoldsFor", fn := fun _ => fun
  | [d1, d2] => { results := [.lit (.bool false)], args := [d1, d2] }
  | _ => none }
def FnExactHoldsForWrongFalsely : Prop := fnExactHoldsForRow.holds Tryz.pinned (OpenSpec.ofChange fnExactHoldsForWrong)

/- THE SECOND FORM. 'bulk': how many values and letters a reading holds, each counted each time it is reached (what is shared counts as often as it is met; a slice's spare places count too). A statement '..UptoSaid' is the law's where the arguments, and the package variables that the reading takes, are together of bulk at most 1048576: NARROWER than '..Said'. Prove '..Said' where nothing that the law and all that it calls make is longer than what came in: it says more and counts as full. Else prove '..UptoSaid'. A law counts once. -/
mutual
def uptoBulk {H : Type} : DataW H → Nat
  | .lit (.string bytes) => bytes.length + 1
  | .lit _ => 1
  | .nil => 1
  | .ptr d => uptoBulk d + 1
  | .slice elems spare => uptoBulkAll elems + uptoBulkAll spare + 1
  | .agg parts => uptoBulkAll parts + 1
  | .iface _ d => uptoBulk d + 1
  | .map entries => uptoBulkEntries entries + 1
  | .held _ => 1
def uptoBulkAll {H : Type} : List (DataW H) → Nat
  | [] => 0
  | d :: r => uptoBulk d + uptoBulkAll r
def uptoBulkEntries {H : Type} : List (Lit × DataW H) → Nat
  | [] => 0
  | x :: r => uptoBulkEntry x + uptoBulkEntries r
def uptoBulkEntry {H : Type} : Lit × DataW H → Nat
  | (.string bytes, d) => bytes.length + uptoBulk d + 1
  | (_, d) => uptoBulk d + 1
 end
def uptoSmall : (H : Type) → List (DataW H) → Bool := fun _ ds => decide (uptoBulkAll ds ≤ 1048576)
def OpenSpec.upto (s : _root_.Go.ChangeSpec) : _root_.Go.OpenSpec := { _root_.Go.OpenSpec.ofChange s with cond := some uptoSmall }

/-- 'laws.FnExactAlphaEqual', WHERE WHAT IT READS IS OF BULK AT MOST 1048576: true; the input reads as it did. -/
def fnExactAlphaEqualUptoRow : OpenClaim := { program := "ytbfkfklaplgebaagreat", sum := "53dd15935c41319c1161b21ce85bb0f7b084da1312b6eb700cc9261b3cff3970", func := "loop.example/g03112/laws.FnExactAlphaEqual", spec := "fnExactAlphaEqual", unfollowed := true, recurses := true, loops := true, plainKeys := false, apart := false, narrowed := true }
def FnExactAlphaEqualUptoSaid : Prop := fnExactAlphaEqualUptoRow.holds Tryz.pinned (OpenSpec.upto fnExactAlphaEqualSpec)

/-- 'laws.FnExactCanonicalTerm', WHERE WHAT IT READS IS OF BULK AT MOST 1048576: true; the input reads as it did. -/
def fnExactCanonicalTermUptoRow : OpenClaim := { program := "ytbfkfklaplgebaagreat", sum := "53dd15935c41319c1161b21ce85bb0f7b084da1312b6eb700cc9261b3cff3970", func := "loop.example/g03112/laws.FnExactCanonicalTerm", spec := "fnExactCanonicalTerm", unfollowed := true, recurses := true, loops := true, plainKeys := false, apart := false, narrowed := true }
def FnExactCanonicalTermUptoSaid : Prop := fnExactCanonicalTermUptoRow.holds Tryz.pinned (OpenSpec.upto fnExactCanonicalTermSpec)

/-- 'laws.FnExactEqualNeeds', WHERE WHAT IT READS IS OF BULK AT MOST 1048576: true; the input reads as it did. -/
def fnExactEqualNeedsUptoRow : OpenClaim := { program := "ytbfkfklaplgebaagreat", sum := "53dd15935c41319c1161b21ce85bb0f7b084da1312b6eb700cc9261b3cff3970", func := "loop.example/g03112/laws.FnExactEqualNeeds", spec := "fnExactEqualNeeds", unfollowed := true, recurses := true, loops := true, plainKeys := false, apart := false, narrowed := true }
def FnExactEqualNeedsUptoSaid : Prop := fnExactEqualNeedsUptoRow.holds Tryz.pinned (OpenSpec.upto fnExactEqualNeedsSpec)

/-- 'laws.FnExactFreshIn', WHERE WHAT IT READS IS OF BULK AT MOST 1048576: true; the input reads as it did. -/
def fnExactFreshInUptoRow : OpenClaim := { program := "ytbfkfklaplgebaagreat", sum := "53dd15935c41319c1161b21ce85bb0f7b084da1312b6eb700cc9261b3cff3970", func := "loop.example/g03112/laws.FnExactFreshIn", spec := "fnExactFreshIn", unfollowed := true, recurses := true, loops := true, plainKeys := false, apart := false, narrowed := true }
def FnExactFreshInUptoSaid : Prop := fnExactFreshInUptoRow.holds Tryz.pinned (OpenSpec.upto fnExactFreshInSpec)

/-- 'laws.FnExactEqualIn', WHERE WHAT IT READS IS OF BULK AT MOST 1048576: true; the input reads as it did. -/
def fnExactEqualInUptoRow : OpenClaim := { program := "ytbfkfklaplgebaagreat", sum := "53dd15935c41319c1161b21ce85bb0f7b084da1312b6eb700cc9261b3cff3970", func := "loop.example/g03112/laws.FnExactEqualIn", spec := "fnExactEqualIn", unfollowed := true, recurses := true, loops := true, plainKeys := false, apart := false, narrowed := true }
def FnExactEqualInUptoSaid : Prop := fnExactEqualInUptoRow.holds Tryz.pinned (OpenSpec.upto fnExactEqualInSpec)

/-- 'laws.FnExactApplySubstitution', WHERE WHAT IT READS IS OF BULK AT MOST 1048576: true; the input reads as it did. -/
def fnExactApplySubstitutionUptoRow : OpenClaim := { program := "ytbfkfklaplgebaagreat", sum := "53dd15935c41319c1161b21ce85bb0f7b084da1312b6eb700cc9261b3cff3970", func := "loop.example/g03112/laws.FnExactApplySubstitution", spec := "fnExactApplySubstitution", unfollowed := true, recurses := true, loops := true, plainKeys := false, apart := false, narrowed := true }
def FnExactApplySubstitutionUptoSaid : Prop := fnExactApplySubstitutionUptoRow.holds Tryz.pinned (OpenSpec.upto fnExactApplySubstitutionSpec)

/-- 'laws.FnExactContextUnder', WHERE WHAT IT READS IS OF BULK AT MOST 1048576: true; the input reads as it did. -/
def fnExactContextUnderUptoRow : OpenClaim := { program := "ytbfkfklaplgebaagreat", sum := "53dd15935c41319c1161b21ce85bb0f7b084da1312b6eb700cc9261b3cff3970", func := "loop.example/g03112/laws.FnExactContextUnder", spec := "fnExactContextUnder", unfollowed := true, recurses := true, loops := true, plainKeys := false, apart := false, narrowed := true }
def FnExactContextUnderUptoSaid : Prop := fnExactContextUnderUptoRow.holds Tryz.pinned (OpenSpec.upto fnExactContextUnderSpec)

/-- 'laws.FnExactHoldsFor', WHERE WHAT IT READS IS OF BULK AT MOST 1048576: true; the input reads as it did. -/
def fnExactHoldsForUptoRow : OpenClaim := { program := "ytbfkfklaplgebaagreat", sum := "53dd15935c41319c1161b21ce85bb0f7b084da1312b6eb700cc9261b3cff3970", func := "loop.example/g03112/laws.FnExactHoldsFor", spec := "fnExactHoldsFor", unfollowed := true, recurses := true, loops := true, plainKeys := false, apart := false, narrowed := true }
def FnExactHoldsForUptoSaid : Prop := fnExactHoldsForUptoRow.holds Tryz.pinned (OpenSpec.upto fnExactHoldsForSpec)

end Rows
end Go.Proofs.YtbfkfklaplgebaaGreat
