/-
  NARROWER THAN 'FOR EVERY INPUT', by the rows' own cells (each row's printed sentence says how): FnExactActOn: loops · FnExactFreeAtoms: loops · FnExactIsFreshFor: loops · FnExactFreshNeeds: loops.
  DERIVED. THE GIVEN ROWS OF THIS SEAT. 4 by the template 'for every input the law returns true; each argument reads behind the call as it read before'; 0 by the template 'total and deterministic' (their statements: YtbfkfklaplgebaaTotals.lean).
  GIVEN WITH THE SEED: the statements are not yours to turn. If you find one false, say at which input.
  Laid BY PROGRAM, IN A SANDBOX (cutbox-rows.mjs): the forced cells as the released guide's own fill.sh prints them over the translation 382ec343f0283f3c… (all of the seat's roots in one cut). By AI agents, Wed Nov 11 2026. No macro, syntax, notation, axiom, sorry.
-/
import Derived.Test.YtbfkfklaplgebaaChecked
import GoSem.Claim
import GoSem.ClaimJoined
import GoSem.ClaimMapViews
import Derived.JoinedTies
import Derived.KernelRfl
namespace Go.Proofs.Ytbfkfklaplgebaa
/- THE CELL 'sum', in the pinned program and in every row, IS THE sha256 OF THE DUMP (.gsa) THAT YtbfkfklaplgebaaProg.lean LOADS. Nothing in Lean hashes anything: it is a label: what it is worth is what the hold of that sum in a sandbox is worth. -/
noncomputable def Try.pinned : Pinned := { name := "ytbfkfklaplgebaa", sum := "382ec343f0283f3c279ed105df9e89e330e44dbddef939f6a7f5707c1c01d604", checked := Try.checked }
namespace Rows
def none {H : Type} : Left H := { results := [], args := [] }

/-- 'laws.FnExactActOn': WHATEVER THE INPUT: true; the input reads as it did. -/
def fnExactActOnSpec : ChangeSpec := { name := "fnExactActOn", fn := fun _ => fun
  | [d1, d2] => { results := [.lit (.bool true)], args := [d1, d2] }
  | _ => none }
def fnExactActOnRow : OpenClaim := { program := "ytbfkfklaplgebaa", sum := "382ec343f0283f3c279ed105df9e89e330e44dbddef939f6a7f5707c1c01d604", func := "loop.example/g03112/laws.FnExactActOn", spec := "fnExactActOn", unfollowed := true, recurses := true, loops := true, plainKeys := false, apart := false }
def FnExactActOnSaid : Prop := fnExactActOnRow.holds Try.pinned (OpenSpec.ofChange fnExactActOnSpec)

/-- ITS FALSE NEIGHBOUR: 'it returns false'. Refute it at one input. -/
def fnExactActOnWrong : ChangeSpec := { name := "fnExactActOn", fn := fun _ => fun
  | [d1, d2] => { results := [.lit (.bool false)], args := [d1, d2] }
  | _ => none }
def FnExactActOnWrongFalsely : Prop := fnExactActOnRow.holds Try.pinned (OpenSpec.ofChange fnExactActOnWrong)

/-- 'laws.FnExactFreeAtoms': WHATEVER THE INPUT: true; the input reads as it did. -/
def fnExactFreeAtomsSpec : ChangeSpec := { name := "fnExactFreeAtoms", fn := fun _ => fun
  | [d] => { results := [.lit (.bool true)], args := [d] }
  | _ => none }
def fnExactFreeAtomsRow : OpenClaim := { program := "ytbfkfklaplgebaa", sum := "382ec343f0283f3c279ed105df9e89e330e44dbddef939f6a7f5707c1c01d604", func := "loop.example/g03112/laws.FnExactFreeAtoms", spec := "fnExactFreeAtoms", unfollowed := true, recurses := true, loops := true, plainKeys := false, apart := false }
def FnExactFreeAtomsSaid : Prop := fnExactFreeAtomsRow.holds Try.pinned (OpenSpec.ofChange fnExactFreeAtomsSpec)

/-- ITS FALSE NEIGHBOUR: 'it returns false'. Refute it at one input. -/
def fnExactFreeAtomsWrong : ChangeSpec := { name := "fnExactFreeAtoms", fn := fun _ => fun
  | [d] => { results := [.lit (.bool false)], args := [d] }
  | _ => none }
def FnExactFreeAtomsWrongFalsely : Prop := fnExactFreeAtomsRow.holds Try.pinned (OpenSpec.ofChange fnExactFreeAtomsWrong)

/-- 'laws.FnExactIsFreshFor': WHATEVER THE INPUT: true; the input reads as it did. -/
def fnExactIsFreshForSpec : ChangeSpec := { name := "fnExactIsFreshFor", fn := fun _ => fun
  | [d1, d2] => { results := [.lit (.bool true)], args := [d1, d2] }
  | _ => none }
def fnExactIsFreshForRow : OpenClaim := { program := "ytbfkfklaplgebaa", sum := "382ec343f0283f3c279ed105df9e89e330e44dbddef939f6a7f5707c1c01d604", func := "loop.example/g03112/laws.FnExactIsFreshFor", spec := "fnExactIsFreshFor", unfollowed := true, recurses := true, loops := true, plainKeys := false, apart := false }
def FnExactIsFreshForSaid : Prop := fnExactIsFreshForRow.holds Try.pinned (OpenSpec.ofChange fnExactIsFreshForSpec)

/-- ITS FALSE NEIGHBOUR: 'it returns false'. Refute it at one input. -/
def fnExactIsFreshForWrong : ChangeSpec := { name := "fnExactIsFreshFor", fn := fun _ => fun
  | [d1, d2] => { results := [.lit (.bool false)], args := [d1, d2] }
  | _ => none }
def FnExactIsFreshForWrongFalsely : Prop := fnExactIsFreshForRow.holds Try.pinned (OpenSpec.ofChange fnExactIsFreshForWrong)

/-- 'laws.FnExactFreshNeeds': WHATEVER THE INPUT: true; the input reads as it did. -/
def fnExactFreshNeedsSpec : ChangeSpec := { name := "fnExactFreshNeeds", fn := fun _ => fun
  | [d1, d2] => { results := [.lit (.bool true)], args := [d1, d2] }
  | _ => none }
def fnExactFreshNeedsRow : OpenClaim := { program := "ytbfkfklaplgebaa", sum := "382ec343f0283f3c279ed105df9e89e330e44dbddef939f6a7f5707c1c01d604", func := "loop.example/g03112/laws.FnExactFreshNeeds", spec := "fnExactFreshNeeds", unfollowed := true, recurses := true, loops := true, plainKeys := false, apart := false }
def FnExactFreshNeedsSaid : Prop := fnExactFreshNeedsRow.holds Try.pinned (OpenSpec.ofChange fnExactFreshNeedsSpec)

/-- ITS FALSE NEIGHBOUR: 'it returns false'. Refute it at one input. -/
def fnExactFreshNeedsWrong : ChangeSpec := { name := "fnExactFreshNeeds", fn := fun _ => fun
  | [d1, d2] => { results := [.lit (.bool false)], args := [d1, d2] }
  | _ => none }
def FnExactFreshNeedsWrongFalsely : Prop := fnExactFreshNeedsRow.holds Try.pinned (OpenSpec.ofChange fnExactFreshNeedsWrong)

/- THE SECOND FORM. 'bulk': how many values and letters a reading holds, each counted each time it is reached (what is shared counts as often as it is met; a slice's spare places count too). A statement '..UptoSaid' is the law's where the arguments, and the package variables that the reading takes, are together of bulk at most 1048576: NARROWER than '..Said'. Prove '..Said' where nothing that the law and all that it calls make is longer than what came in: it says more and counts as full. Else prove '..UptoSaid'. A law counts once. -/
mutual
def uptoBulk {H : Type} : DataW H → Nat
  | .lit (.string bytes) => bytes.length + 1
  | .lit _ => 1
  | .nil => 1
  | .ptr d => uptoBulk d + 1
  | .slice elems spare => uptoBulkAll elems + uptoBulkAll spare + 1
  | .agg parts => uptoBulkAll parts + 1
  | .iface _ d => uptoBulk d + 1
  | .map entries => uptoBulkEntries entries + 1
  | .held _ => 1
def uptoBulkAll {H : Type} : List (DataW H) → Nat
  | [] => 0
  | d :: r => uptoBulk d + uptoBulkAll r
def uptoBulkEntries {H : Type} : List (Lit × DataW H) → Nat
  | [] => 0
  | x :: r => uptoBulkEntry x + uptoBulkEntries r
def uptoBulkEntry {H : Type} : Lit × DataW H → Nat
  | (.string bytes, d) => bytes.length + uptoBulk d + 1
  | (_, d) => uptoBulk d + 1
 end
def uptoSmall : (H : Type) → List (DataW H) → Bool := fun _ ds => decide (uptoBulkAll ds ≤ 1048576)
def OpenSpec.upto (s : _root_.Go.ChangeSpec) : _root_.Go.OpenSpec := { _root_.Go.OpenSpec.ofChange s with cond := some uptoSmall }

/-- 'laws.FnExactActOn', WHERE WHAT IT READS IS OF BULK AT MOST 1048576: true; the input reads as it did. -/
def fnExactActOnUptoRow : OpenClaim := { program := "ytbfkfklaplgebaa", sum := "382ec343f0283f3c279ed105df9e89e330e44dbddef939f6a7f5707c1c01d604", func := "loop.example/g03112/laws.FnExactActOn", spec := "fnExactActOn", unfollowed := true, recurses := true, loops := true, plainKeys := false, apart := false, narrowed := true }
def FnExactActOnUptoSaid : Prop := fnExactActOnUptoRow.holds Try.pinned (OpenSpec.upto fnExactActOnSpec)

/-- 'laws.FnExactFreeAtoms', WHERE WHAT IT READS IS OF BULK AT MOST 1048576: true; the input reads as it did. -/
def fnExactFreeAtomsUptoRow : OpenClaim := { program := "ytbfkfklaplgebaa", sum := "382ec343f0283f3c279ed105df9e89e330e44dbddef939f6a7f5707c1c01d604", func := "loop.example/g03112/laws.FnExactFreeAtoms", spec := "fnExactFreeAtoms", unfollowed := true, recurses := true, loops := true, plainKeys := false, apart := false, narrowed := true }
def FnExactFreeAtomsUptoSaid : Prop := fnExactFreeAtomsUptoRow.holds Try.pinned (OpenSpec.upto fnExactFreeAtomsSpec)

/-- 'laws.FnExactIsFreshFor', WHERE WHAT IT READS IS OF BULK AT MOST 1048576: true; the input reads as it did. -/
def fnExactIsFreshForUptoRow : OpenClaim := { program := "ytbfkfklaplgebaa", sum := "382ec343f0283f3c279ed105df9e89e330e44dbddef939f6a7f5707c1c01d604", func := "loop.example/g03112/laws.FnExactIsFreshFor", spec := "fnExactIsFreshFor", unfollowed := true, recurses := true, loops := true, plainKeys := false, apart := false, narrowed := true }
def FnExactIsFreshForUptoSaid : Prop := fnExactIsFreshForUptoRow.holds Try.pinned (OpenSpec.upto fnExactIsFreshForSpec)

/-- 'laws.FnExactFreshNeeds', WHERE WHAT IT READS IS OF BULK AT MOST 1048576: true; the input reads as it did. -/
def fnExactFreshNeedsUptoRow : OpenClaim := { program := "ytbfkfklaplgebaa", sum := "382ec343f0283f3c279ed105df9e89e330e44dbddef939f6a7f5707c1c01d604", func := "loop.example/g03112/laws.FnExactFreshNeeds", spec := "fnExactFreshNeeds", unfollowed := true, recurses := true, loops := true, plainKeys := false, apart := false, narrowed := true }
def FnExactFreshNeedsUptoSaid : Prop := fnExactFreshNeedsUptoRow.holds Try.pinned (OpenSpec.upto fnExactFreshNeedsSpec)

end Rows
end Go.Proofs.Ytbfkfklaplgebaa
