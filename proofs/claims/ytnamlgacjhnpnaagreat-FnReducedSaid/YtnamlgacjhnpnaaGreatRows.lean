/-
  No cell of these rows narrows 'for every input' (looked for: loops, veiled, ifaces, maps, wideKeys, modest, calm, conditions, laid).
  DERIVED. THE GIVEN ROWS OF THIS SEAT. 3 by the template 'for every input the law returns true; each argument reads behind the call as it read before'; 0 by the template 'total and deterministic' (their statements: YtnamlgacjhnpnaaGreatTotals.lean).
  GIVEN WITH THE SEED: the statements are not yours to turn. If you find one false, say at which input.
  Laid BY PROGRAM, IN A SANDBOX (cutbox-rows.mjs): the forced cells as the released guide's own fill.sh prints them over the translation 61f557912bcd3771… (all of the seat's roots in one cut). By AI agents, Wed Nov 11 2026. No macro, syntax, notation, axiom, sorry.
-/
import Derived.Test.YtnamlgacjhnpnaaGreatChecked
import GoSem.Claim
import GoSem.ClaimJoined
import GoSem.ClaimMapViews
import Derived.JoinedTies
import Derived.KernelRfl
namespace Go.Proofs.YtnamlgacjhnpnaaGreat
/- THE CELL 'sum', in the pinned program and in every row, IS THE sha256 OF THE DUMP (.gsa) THAT YtnamlgacjhnpnaaGreatProg.lean LOADS. Nothing in Lean hashes anything: it is a label: what it is worth is what the hold of that sum in a sandbox is worth. -/
noncomputable def Tryz.pinned : Pinned := { name := "ytnamlgacjhnpnaagreat", sum := "61f557912bcd37714be0080a3591542a95cafb27b16ea92058882a16e73f317f", checked := Tryz.checked }
namespace Rows
def none {H : Type} : Left H := { results := [], args := [] }

/-- 'laws.FnSetActed': WHATEVER THE INPUT: true; the input reads as it did. -/
def fnSetActedSpec : ChangeSpec := { name := "fnSetActed", fn := fun _ => fun
  | [d] => { results := [.lit (.bool true)], args := [d] }
  | _ => none }
def fnSetActedRow : OpenClaim := { program := "ytnamlgacjhnpnaagreat", sum := "61f557912bcd37714be0080a3591542a95cafb27b16ea92058882a16e73f317f", func := "loop.example/g03112/laws.FnSetActed", spec := "fnSetActed", unfollowed := true, recurses := true, apart := false }
def FnSetActedSaid : Prop := fnSetActedRow.holds Tryz.pinned (OpenSpec.ofChange fnSetActedSpec)

/-- ITS FALSE NEIGHBOUR: 'it returns false'. Refute it at one input. -/
def fnSetActedWrong : ChangeSpec := { name := "fnSetActed", fn := fun _ => fun
  | [d] => { results := [.lit (.bool false)], args := [d] }
  | _ => none }
def FnSetActedWrongFalsely : Prop := fnSetActedRow.holds Tryz.pinned (OpenSpec.ofChange fnSetActedWrong)

/-- 'laws.FnReduced': WHATEVER THE INPUT: true; the input reads as it did. -/
def fnReducedSpec : ChangeSpec := { name := "fnReduced", fn := fun _ => fun
  | [d] => { results := [.lit (.bool true)], args := [d] }
  | _ => none }
def fnReducedRow : OpenClaim := { program := "ytnamlgacjhnpnaagreat", sum := "61f557912bcd37714be0080a3591542a95cafb27b16ea92058882a16e73f317f", func := "loop.example/g03112/laws.FnReduced", spec := "fnReduced", unfollowed := true, recurses := true, apart := false }
def FnReducedSaid : Prop := fnReducedRow.holds Tryz.pinned (OpenSpec.ofChange fnReducedSpec)

/-- ITS FALSE NEIGHBOUR: 'it returns false'. Refute it at one input. -/
def fnReducedWrong : ChangeSpec := { name := "fnReduced", fn := fun _ => fun
  | [d] => { results := [.lit (.bool false)], args := [d] }
  | _ => none }
def FnReducedWrongFalsely : Prop := fnReducedRow.holds Tryz.pinned (OpenSpec.ofChange fnReducedWrong)

/-- 'laws.FnFormula': WHATEVER THE INPUT: true; the input reads as it did. -/
def fnFormulaSpec : ChangeSpec := { name := "fnFormula", fn := fun _ => fun
  | [d] => { results := [.lit (.bool true)], args := [d] }
  | _ => none }
def fnFormulaRow : OpenClaim := { program := "ytnamlgacjhnpnaagreat", sum := "61f557912bcd37714be0080a3591542a95cafb27b16ea92058882a16e73f317f", func := "loop.example/g03112/laws.FnFormula", spec := "fnFormula", unfollowed := true, recurses := true, apart := false }
def FnFormulaSaid : Prop := fnFormulaRow.holds Tryz.pinned (OpenSpec.ofChange fnFormulaSpec)

/-- ITS FALSE NEIGHBOUR: 'it returns false'. Refute it at one input. -/
def fnFormulaWrong : ChangeSpec := { name := "fnFormula", fn := fun _ => fun
  | [d] => { results := [.lit (.bool false)], args := [d] }
  | _ => none }
def FnFormulaWrongFalsely : Prop := fnFormulaRow.holds Tryz.pinned (OpenSpec.ofChange fnFormulaWrong)

/- THE SECOND FORM. 'bulk': how many values and letters a reading holds, each counted each time it is reached (what is shared counts as often as it is met; a slice's spare places count too). A statement '..UptoSaid' is the law's where the arguments, and the package variables that the reading takes, are together of bulk at most 1048576: NARROWER than '..Said'. Prove '..Said' where nothing that the law and all that it calls make is longer than what came in: it says more and counts as full. Else prove '..UptoSaid'. A law counts once. -/
mutual
def uptoBulk {H : Type} : DataW H → Nat
  | .lit (.string bytes) => bytes.length + 1
  | .lit _ => 1
  | .nil => 1
  | .ptr d => uptoBulk d + 1
  | .slice elems spare => uptoBulkAll elems + uptoBulkAll spare + 1
  | .agg parts => uptoBulkAll parts + 1
  | .iface _ d => uptoBulk d + 1
  | .map entries => uptoBulkEntries entries + 1
  | .held _ => 1
def uptoBulkAll {H : Type} : List (DataW H) → Nat
  | [] => 0
  | d :: r => uptoBulk d + uptoBulkAll r
def uptoBulkEntries {H : Type} : List (Lit × DataW H) → Nat
  | [] => 0
  | x :: r => uptoBulkEntry x + uptoBulkEntries r
def uptoBulkEntry {H : Type} : Lit × DataW H → Nat
  | (.string bytes, d) => bytes.length + uptoBulk d + 1
  | (_, d) => uptoBulk d + 1
 end
def uptoSmall : (H : Type) → List (DataW H) → Bool := fun _ ds => decide (uptoBulkAll ds ≤ 1048576)
def OpenSpec.upto (s : _root_.Go.ChangeSpec) : _root_.Go.OpenSpec := { _root_.Go.OpenSpec.ofChange s with cond := some uptoSmall }

/-- 'laws.FnSetActed', WHERE WHAT IT READS IS OF BULK AT MOST 1048576: true; the input reads as it did. -/
def fnSetActedUptoRow : OpenClaim := { program := "ytnamlgacjhnpnaagreat", sum := "61f557912bcd37714be0080a3591542a95cafb27b16ea92058882a16e73f317f", func := "loop.example/g03112/laws.FnSetActed", spec := "fnSetActed", unfollowed := true, recurses := true, apart := false, narrowed := true }
def FnSetActedUptoSaid : Prop := fnSetActedUptoRow.holds Tryz.pinned (OpenSpec.upto fnSetActedSpec)

/-- 'laws.FnReduced', WHERE WHAT IT READS IS OF BULK AT MOST 1048576: true; the input reads as it did. -/
def fnReducedUptoRow : OpenClaim := { program := "ytnamlgacjhnpnaagreat", sum := "61f557912bcd37714be0080a3591542a95cafb27b16ea92058882a16e73f317f", func := "loop.example/g03112/laws.FnReduced", spec := "fnReduced", unfollowed := true, recurses := true, apart := false, narrowed := true }
def FnReducedUptoSaid : Prop := fnReducedUptoRow.holds Tryz.pinned (OpenSpec.upto fnReducedSpec)

/-- 'laws.FnFormula', WHERE WHAT IT READS IS OF BULK AT MOST 1048576: true; the input reads as it did. -/
def fnFormulaUptoRow : OpenClaim := { program := "ytnamlgacjhnpnaagreat", sum := "61f557912bcd37714be0080a3591542a95cafb27b16ea92058882a16e73f317f", func := "loop.example/g03112/laws.FnFormula", spec := "fnFormula", unfollowed := true, recurses := true, apart := false, narrowed := true }
def FnFormulaUptoSaid : Prop := fnFormulaUptoRow.holds Tryz.pinned (OpenSpec.upto fnFormulaSpec)

end Rows
end Go.Proofs.YtnamlgacjhnpnaaGreat
