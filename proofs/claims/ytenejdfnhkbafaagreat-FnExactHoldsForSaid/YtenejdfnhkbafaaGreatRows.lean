/-
  NARROWER THAN 'FOR EVERY INPUT', by the rows' own cells (each row's printed sentence says how): FnExactReplaceAtom: loops · FnExactApplySubstitution: loops · FnExactComposeSubstitutions: loops · FnExactContextUnder: loops · FnExactHoldsFor: loops · FnExactActOnRule: loops.
  DERIVED. THE GIVEN ROWS OF THIS SEAT. 6 by the template 'for every input the law returns true; each argument reads behind the call as it read before'; 0 by the template 'total and deterministic' (their statements: YtenejdfnhkbafaaGreatTotals.lean).
  GIVEN WITH THE SEED: the statements are not yours to turn. If you find one false, say at which input.
  Laid BY PROGRAM, IN A SANDBOX (cutbox-rows.mjs): the forced cells as the released guide's own fill.sh prints them over the translation 7346ae1b4bc762f6… (all of the seat's roots in one cut). By AI agents, Wed Nov 11 2026. No macro, syntax, notation, axiom, sorry.
-/
import Derived.Test.YtenejdfnhkbafaaGreatChecked
import GoSem.Claim
import GoSem.ClaimJoined
import GoSem.ClaimMapViews
import Derived.JoinedTies
import Derived.KernelRfl
namespace Go.Proofs.YtenejdfnhkbafaaGreat
/- THE CELL 'sum', in the pinned program and in every row, IS THE sha256 OF THE DUMP (.gsa) THAT YtenejdfnhkbafaaGreatProg.lean LOADS. Nothing in Lean hashes anything: it is a label: what it is worth is what the hold of that sum in a sandbox is worth. -/
noncomputable def Tryz.pinned : Pinned := { name := "ytenejdfnhkbafaagreat", sum := "7346ae1b4bc762f6fdf741efed6907cfbb9cdd2c1e4dc78cdefd850f6d8a6d83", checked := Tryz.checked }
namespace Rows
def none {H : Type} : Left H := { results := [], args := [] }

/-- 'laws.FnExactReplaceAtom': WHATEVER THE INPUT: true; the input reads as it did. -/
def fnExactReplaceAtomSpec : ChangeSpec := { name := "fnExactReplaceAtom", fn := fun _ => fun
  | [d1, d2, d3] => { results := [.lit (.bool true)], args := [d1, d2, d3] }
  | _ => none }
def fnExactReplaceAtomRow : OpenClaim := { program := "ytenejdfnhkbafaagreat", sum := "7346ae1b4bc762f6fdf741efed6907cfbb9cdd2c1e4dc78cdefd850f6d8a6d83", func := "loop.example/g03112/laws.FnExactReplaceAtom", spec := "fnExactReplaceAtom", unfollowed := true, recurses := true, loops := true, plainKeys := false, apart := false }
def FnExactReplaceAtomSaid : Prop := fnExactReplaceAtomRow.holds Tryz.pinned (OpenSpec.ofChange fnExactReplaceAtomSpec)

/-- ITS FALSE NEIGHBOUR: 'it returns false'. Refute it at one input. -/
def fnExactReplaceAtomWrong : ChangeSpec := { name := "fnExactReplaceAtom", fn := fun _ => fun
  | [d1, d2, d3] => { results := [.lit (.bool false)], args := [d1, d2, d3] }
  | _ => none }
def FnExactReplaceAtomWrongFalsely : Prop := fnExactReplaceAtomRow.holds Tryz.pinned (OpenSpec.ofChange fnExactReplaceAtomWrong)

/-- 'laws.FnExactApplySubstitution': WHATEVER THE INPUT: true; the input reads as it did. -/
def fnExactApplySubstitutionSpec : ChangeSpec := { name := "fnExactApplySubstitution", fn := fun _ => fun
  | [d1, d2] => { results := [.lit (.bool true)], args := [d1, d2] }
  | _ => none }
def fnExactApplySubstitutionRow : OpenClaim := { program := "ytenejdfnhkbafaagreat", sum := "7346ae1b4bc762f6fdf741efed6907cfbb9cdd2c1e4dc78cdefd850f6d8a6d83", func := "loop.example/g03112/laws.FnExactApplySubstitution", spec := "fnExactApplySubstitution", unfollowed := true, recurses := true, loops := true, plainKeys := false, apart := false }
def FnExactApplySubstitutionSaid : Prop := fnExactApplySubstitutionRow.holds Tryz.pinned (OpenSpec.ofChange fnExactApplySubstitutionSpec)

/-- ITS FALSE NEIGHBOUR: 'it returns false'. Refute it at one input. -/
def fnExactApplySubstitutionWrong : ChangeSpec := { name := "fnExactApplySubstitution", fn := fun _ => fun
  | [d1, d2] => { results := [.lit (.bool false)], args := [d1, d2] }
  | _ => none }
def FnExactApplySubstitutionWrongFalsely : Prop := fnExactApplySubstitutionRow.holds Tryz.pinned (OpenSpec.ofChange fnExactApplySubstitutionWrong)

/-- 'laws.FnExactComposeSubstitutions': WHATEVER THE INPUT: true; the input reads as it did. -/
def fnExactComposeSubstitutionsSpec : ChangeSpec := { name := "fnExactComposeSubstitutions", fn := fun _ => fun
  | [d1, d2] => { results := [.lit (.bool true)], args := [d1, d2] }
  | _ => none }
def fnExactComposeSubstitutionsRow : OpenClaim := { program := "ytenejdfnhkbafaagreat", sum := "7346ae1b4bc762f6fdf741efed6907cfbb9cdd2c1e4dc78cdefd850f6d8a6d83", func := "loop.example/g03112/laws.FnExactComposeSubstitutions", spec := "fnExactComposeSubstitutions", unfollowed := true, recurses := true, loops := true, plainKeys := false, apart := false }
def FnExactComposeSubstitutionsSaid : Prop := fnExactComposeSubstitutionsRow.holds Tryz.pinned (OpenSpec.ofChange fnExactComposeSubstitutionsSpec)

/-- ITS FALSE NEIGHBOUR: 'it returns false'. Refute it at one input. -/
def fnExactComposeSubstitutionsWrong : ChangeSpec := { name := "fnExactComposeSubstitutions", fn := fun _ => fun
  | [d1, d2] => { results := [.lit (.bool false)], args := [d1, d2] }
  | _ => none }
def FnExactComposeSubstitutionsWrongFalsely : Prop := fnExactComposeSubstitutionsRow.holds Tryz.pinned (OpenSpec.ofChange fnExactComposeSubstitutionsWrong)

/-- 'laws.FnExactContextUnder': WHATEVER THE INPUT: true; the input reads as it did. -/
def fnExactContextUnderSpec : ChangeSpec := { name := "fnExactContextUnder", fn := fun _ => fun
  | [d1, d2] => { results := [.lit (.bool true)], args := [d1, d2] }
  | _ => none }
def fnExactContextUnderRow : OpenClaim := { program := "ytenejdfnhkbafaagreat", sum := "7346ae1b4bc762f6fdf741efed6907cfbb9cdd2c1e4dc78cdefd850f6d8a6d83", func := "loop.example/g03112/laws.FnExactContextUnder", spec := "fnExactContextUnder", unfollowed := true, recurses := true, loops := true, plainKeys := false, apart := false }
def FnExactContextUnderSaid : Prop := fnExactContextUnderRow.holds Tryz.pinned (OpenSpec.ofChange fnExactContextUnderSpec)

/-- ITS FALSE NEIGHBOUR: 'it returns false'. Refute it at one input. -/
def fnExactContextUnderWrong : ChangeSpec := { name := "fnExactContextUnder", fn := fun _ => fun
  | [d1, d2] => { results := [.lit (.bool false)], args := [d1, d2] }
  | _ => none }
def FnExactContextUnderWrongFalsely : Prop := fnExactContextUnderRow.holds Tryz.pinned (OpenSpec.ofChange fnExactContextUnderWrong)

/-- 'laws.FnExactHoldsFor': WHATEVER THE INPUT: true; the input reads as it did. -/
def fnExactHoldsForSpec : ChangeSpec := { name := "fnExactHoldsFor", fn := fun _ => fun
  | [d1, d2] => { results := [.lit (.bool true)], args := [d1, d2] }
  | _ => none }
def fnExactHoldsForRow : OpenClaim := { program := "ytenejdfnhkbafaagreat", sum := "7346ae1b4bc762f6fdf741efed6907cfbb9cdd2c1e4dc78cdefd850f6d8a6d83", func := "loop.example/g03112/laws.FnExactHoldsFor", spec := "fnExactHoldsFor", unfollowed := true, recurses := true, loops := true, plainKeys := false, apart := false }
def FnExactHoldsForSaid : Prop := fnExactHoldsForRow.holds Tryz.pinned (OpenSpec.ofChange fnExactHoldsForSpec)

/-- ITS FALSE NEIGHBOUR: 'it returns false'. Refute it at one input. -/
def fnExactHoldsForWrong : ChangeSpec := { name := "fnExactHoldsFor", fn := fun _ => fun
  | [d1, d2] => { results := [.lit (.bool false)], args := [d1, d2] }
  | _ => none }
def FnExactHoldsForWrongFalsely : Prop := fnExactHoldsForRow.holds Tryz.pinned (OpenSpec.ofChange fnExactHoldsForWrong)

/-- 'laws.FnExactActOnRule': WHATEVER THE INPUT: true; the input reads as it did. -/
def fnExactActOnRuleSpec : ChangeSpec := { name := "fnExactActOnRule", fn := fun _ => fun
  | [d1, d2] => { results := [.lit (.bool true)], args := [d1, d2] }
  | _ => none }
def fnExactActOnRuleRow : OpenClaim := { program := "ytenejdfnhkbafaagreat", sum := "7346ae1b4bc762f6fdf741efed6907cfbb9cdd2c1e4dc78cdefd850f6d8a6d83", func := "loop.example/g03112/laws.FnExactActOnRule", spec := "fnExactActOnRule", unfollowed := true, recurses := true, loops := true, plainKeys := false, apart := false }
def FnExactActOnRuleSaid : Prop := fnExactActOnRuleRow.holds Tryz.pinned (OpenSpec.ofChange fnExactActOnRuleSpec)

/-- ITS FALSE NEIGHBOUR: 'it returns false'. Refute it at one input. -/
def fnExactActOnRuleWrong : ChangeSpec := { name := "fnExactActOnRule", fn := fun _ => fun
  | [d1, d2] => { results := [.lit (.bool false)], args := [d1, d2] }
  | _ => none }
def FnExactActOnRuleWrongFalsely : Prop := fnExactActOnRuleRow.holds Tryz.pinned (OpenSpec.ofChange fnExactActOnRuleWrong)

/- THE SECOND FORM. 'bulk': how many values and letters a reading holds, each counted each time it is reached (what is shared counts as often as it is met; a slice's spare places count too). A statement '..UptoSaid' is the law's where the arguments, and the package variables that the reading takes, are together of bulk at most 1048576: NARROWER than '..Said'. Prove '..Said' where nothing that the law and all that it calls make is longer than what came in: it says more and counts as full. Else prove '..UptoSaid'. A law counts once. -/
mutual
def uptoBulk {H : Type} : DataW H → Nat
  | .lit (.string bytes) => bytes.length + 1
  | .lit _ => 1
  | .nil => 1
  | .ptr d => uptoBulk d + 1
  | .slice elems spare => uptoBulkAll elems + uptoBulkAll spare + 1
  | .agg parts => uptoBulkAll parts + 1
  | .iface _ d => uptoBulk d + 1
  | .map entries => uptoBulkEntries entries + 1
  | .held _ => 1
def uptoBulkAll {H : Type} : List (DataW H) → Nat
  | [] => 0
  | d :: r => uptoBulk d + uptoBulkAll r
def uptoBulkEntries {H : Type} : List (Lit × DataW H) → Nat
  | [] => 0
  | x :: r => uptoBulkEntry x + uptoBulkEntries r
def uptoBulkEntry {H : Type} : Lit × DataW H → Nat
  | (.string bytes, d) => bytes.length + uptoBulk d + 1
  | (_, d) => uptoBulk d + 1
 end
def uptoSmall : (H : Type) → List (DataW H) → Bool := fun _ ds => decide (uptoBulkAll ds ≤ 1048576)
def OpenSpec.upto (s : _root_.Go.ChangeSpec) : _root_.Go.OpenSpec := { _root_.Go.OpenSpec.ofChange s with cond := some uptoSmall }

/-- 'laws.FnExactReplaceAtom', WHERE WHAT IT READS IS OF BULK AT MOST 1048576: true; the input reads as it did. -/
def fnExactReplaceAtomUptoRow : OpenClaim := { program := "ytenejdfnhkbafaagreat", sum := "7346ae1b4bc762f6fdf741efed6907cfbb9cdd2c1e4dc78cdefd850f6d8a6d83", func := "loop.example/g03112/laws.FnExactReplaceAtom", spec := "fnExactReplaceAtom", unfollowed := true, recurses := true, loops := true, plainKeys := false, apart := false, narrowed := true }
def FnExactReplaceAtomUptoSaid : Prop := fnExactReplaceAtomUptoRow.holds Tryz.pinned (OpenSpec.upto fnExactReplaceAtomSpec)

/-- 'laws.FnExactApplySubstitution', WHERE WHAT IT READS IS OF BULK AT MOST 1048576: true; the input reads as it did. -/
def fnExactApplySubstitutionUptoRow : OpenClaim := { program := "ytenejdfnhkbafaagreat", sum := "7346ae1b4bc762f6fdf741efed6907cfbb9cdd2c1e4dc78cdefd850f6d8a6d83", func := "loop.example/g03112/laws.FnExactApplySubstitution", spec := "fnExactApplySubstitution", unfollowed := true, recurses := true, loops := true, plainKeys := false, apart := false, narrowed := true }
def FnExactApplySubstitutionUptoSaid : Prop := fnExactApplySubstitutionUptoRow.holds Tryz.pinned (OpenSpec.upto fnExactApplySubstitutionSpec)

/-- 'laws.FnExactComposeSubstitutions', WHERE WHAT IT READS IS OF BULK AT MOST 1048576: true; the input reads as it did. -/
def fnExactComposeSubstitutionsUptoRow : OpenClaim := { program := "ytenejdfnhkbafaagreat", sum := "7346ae1b4bc762f6fdf741efed6907cfbb9cdd2c1e4dc78cdefd850f6d8a6d83", func := "loop.example/g03112/laws.FnExactComposeSubstitutions", spec := "fnExactComposeSubstitutions", unfollowed := true, recurses := true, loops := true, plainKeys := false, apart := false, narrowed := true }
def FnExactComposeSubstitutionsUptoSaid : Prop := fnExactComposeSubstitutionsUptoRow.holds Tryz.pinned (OpenSpec.upto fnExactComposeSubstitutionsSpec)

/-- 'laws.FnExactContextUnder', WHERE WHAT IT READS IS OF BULK AT MOST 1048576: true; the input reads as it did. -/
def fnExactContextUnderUptoRow : OpenClaim := { program := "ytenejdfnhkbafaagreat", sum := "7346ae1b4bc762f6fdf741efed6907cfbb9cdd2c1e4dc78cdefd850f6d8a6d83", func := "loop.example/g03112/laws.FnExactContextUnder", spec := "fnExactContextUnder", unfollowed := true, recurses := true, loops := true, plainKeys := false, apart := false, narrowed := true }
def FnExactContextUnderUptoSaid : Prop := fnExactContextUnderUptoRow.holds Tryz.pinned (OpenSpec.upto fnExactContextUnderSpec)

/-- 'laws.FnExactHoldsFor', WHERE WHAT IT READS IS OF BULK AT MOST 1048576: true; the input reads as it did. -/
def fnExactHoldsForUptoRow : OpenClaim := { program := "ytenejdfnhkbafaagreat", sum := "7346ae1b4bc762f6fdf741efed6907cfbb9cdd2c1e4dc78cdefd850f6d8a6d83", func := "loop.example/g03112/laws.FnExactHoldsFor", spec := "fnExactHoldsFor", unfollowed := true, recurses := true, loops := true, plainKeys := false, apart := false, narrowed := true }
def FnExactHoldsForUptoSaid : Prop := fnExactHoldsForUptoRow.holds Tryz.pinned (OpenSpec.upto fnExactHoldsForSpec)

/-- 'laws.FnExactActOnRule', WHERE WHAT IT READS IS OF BULK AT MOST 1048576: true; the input reads as it did. -/
def fnExactActOnRuleUptoRow : OpenClaim := { program := "ytenejdfnhkbafaagreat", sum := "7346ae1b4bc762f6fdf741efed6907cfbb9cdd2c1e4dc78cdefd850f6d8a6d83", func := "loop.example/g03112/laws.FnExactActOnRule", spec := "fnExactActOnRule", unfollowed := true, recurses := true, loops := true, plainKeys := false, apart := false, narrowed := true }
def FnExactActOnRuleUptoSaid : Prop := fnExactActOnRuleUptoRow.holds Tryz.pinned (OpenSpec.upto fnExactActOnRuleSpec)

end Rows
end Go.Proofs.YtenejdfnhkbafaaGreat
