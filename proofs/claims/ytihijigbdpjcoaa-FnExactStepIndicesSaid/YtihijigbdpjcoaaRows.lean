/-
  NARROWER THAN 'FOR EVERY INPUT', by the rows' own cells (each row's printed sentence says how): FnExactIsFunctionTerm: loops · FnExactIsIndexTerm: loops · FnExactIsClosed: loops · FnExactStepIndices: loops · FnExactPathsOf: loops · FnExactPutAt: loops · FnExactIsGround: loops.
  DERIVED. THE GIVEN ROWS OF THIS SEAT. 7 by the template 'for every input the law returns true; each argument reads behind the call as it read before'; 0 by the template 'total and deterministic' (their statements: YtihijigbdpjcoaaTotals.lean).
  GIVEN WITH THE SEED: the statements are not yours to turn. If you find one false, say at which input.
  Laid BY PROGRAM, IN A SANDBOX (cutbox-rows.mjs): the forced cells as the released guide's own fill.sh prints them over the translation dd1d69683b6f99d4… (all of the seat's roots in one cut). By AI agents, Wed Nov 11 2026. No macro, syntax, notation, axiom, sorry.
-/
import Derived.Test.YtihijigbdpjcoaaChecked
import GoSem.Claim
import GoSem.ClaimJoined
import GoSem.ClaimMapViews
import Derived.JoinedTies
import Derived.KernelRfl
namespace Go.Proofs.Ytihijigbdpjcoaa
/- THE CELL 'sum', in the pinned program and in every row, IS THE sha256 OF THE DUMP (.gsa) THAT YtihijigbdpjcoaaProg.lean LOADS. Nothing in Lean hashes anything: it is a label: what it is worth is what the hold of that sum in a sandbox is worth. -/
noncomputable def Try.pinned : Pinned := { name := "ytihijigbdpjcoaa", sum := "dd1d69683b6f99d403c9ce8f2eb40d712299594a01ffb5db31c18000b0d8ab78", checked := Try.checked }
namespace Rows
def none {H : Type} : Left H := { results := [], args := [] }

/-- 'laws.FnExactIsFunctionTerm': WHATEVER THE INPUT: true; the input reads as it did. -/
def fnExactIsFunctionTermSpec : ChangeSpec := { name := "fnExactIsFunctionTerm", fn := fun _ => fun
  | [d] => { results := [.lit (.bool true)], args := [d] }
  | _ => none }
def fnExactIsFunctionTermRow : OpenClaim := { program := "ytihijigbdpjcoaa", sum := "dd1d69683b6f99d403c9ce8f2eb40d712299594a01ffb5db31c18000b0d8ab78", func := "loop.example/g03112/laws.FnExactIsFunctionTerm", spec := "fnExactIsFunctionTerm", unfollowed := true, recurses := true, loops := true, apart := false }
def FnExactIsFunctionTermSaid : Prop := fnExactIsFunctionTermRow.holds Try.pinned (OpenSpec.ofChange fnExactIsFunctionTermSpec)

/-- ITS FALSE NEIGHBOUR: 'it returns false'. Refute it at one input. -/
def fnExactIsFunctionTermWrong : ChangeSpec := { name := "fnExactIsFunctionTerm", fn := fun _ => fun
  | [d] => { results := [.lit (.bool false)], args := [d] }
  | _ => none }
def FnExactIsFunctionTermWrongFalsely : Prop := fnExactIsFunctionTermRow.holds Try.pinned (OpenSpec.ofChange fnExactIsFunctionTermWrong)

/-- 'laws.FnExactIsIndexTerm': WHATEVER THE INPUT: true; the input reads as it did. -/
def fnExactIsIndexTermSpec : ChangeSpec := { name := "fnExactIsIndexTerm", fn := fun _ => fun
  | [d] => { results := [.lit (.bool true)], args := [d] }
  | _ => none }
def fnExactIsIndexTermRow : OpenClaim := { program := "ytihijigbdpjcoaa", sum := "dd1d69683b6f99d403c9ce8f2eb40d712299594a01ffb5db31c18000b0d8ab78", func := "loop.example/g03112/laws.FnExactIsIndexTerm", spec := "fnExactIsIndexTerm", unfollowed := true, recurses := true, loops := true, apart := false }
def FnExactIsIndexTermSaid : Prop := fnExactIsIndexTermRow.holds Try.pinned (OpenSpec.ofChange fnExactIsIndexTermSpec)

/-- ITS FALSE NEIGHBOUR: 'it returns false'. Refute it at one input. -/
def fnExactIsIndexTermWrong : ChangeSpec := { name := "fnExactIsIndexTerm", fn := fun _ => fun
  | [d] => { results := [.lit (.bool false)], args := [d] }
  | _ => none }
def FnExactIsIndexTermWrongFalsely : Prop := fnExactIsIndexTermRow.holds Try.pinned (OpenSpec.ofChange fnExactIsIndexTermWrong)

/-- 'laws.FnExactIsClosed': WHATEVER THE INPUT: true; the input reads as it did. -/
def fnExactIsClosedSpec : ChangeSpec := { name := "fnExactIsClosed", fn := fun _ => fun
  | [d] => { results := [.lit (.bool true)], args := [d] }
  | _ => none }
def fnExactIsClosedRow : OpenClaim := { program := "ytihijigbdpjcoaa", sum := "dd1d69683b6f99d403c9ce8f2eb40d712299594a01ffb5db31c18000b0d8ab78", func := "loop.example/g03112/laws.FnExactIsClosed", spec := "fnExactIsClosed", unfollowed := true, recurses := true, loops := true, apart := false }
def FnExactIsClosedSaid : Prop := fnExactIsClosedRow.holds Try.pinned (OpenSpec.ofChange fnExactIsClosedSpec)

/-- ITS FALSE NEIGHBOUR: 'it returns false'. Refute it at one input. -/
def fnExactIsClosedWrong : ChangeSpec := { name := "fnExactIsClosed", fn := fun _ => fun
  | [d] => { results := [.lit (.bool false)], args := [d] }
  | _ => none }
def FnExactIsClosedWrongFalsely : Prop := fnExactIsClosedRow.holds Try.pinned (OpenSpec.ofChange fnExactIsClosedWrong)

/-- 'laws.FnExactStepIndices': WHATEVER THE INPUT: true; the input reads as it did. -/
def fnExactStepIndicesSpec : ChangeSpec := { name := "fnExactStepIndices", fn := fun _ => fun
  | [d] => { results := [.lit (.bool true)], args := [d] }
  | _ => none }
def fnExactStepIndicesRow : OpenClaim := { program := "ytihijigbdpjcoaa", sum := "dd1d69683b6f99d403c9ce8f2eb40d712299594a01ffb5db31c18000b0d8ab78", func := "loop.example/g03112/laws.FnExactStepIndices", spec := "fnExactStepIndices", unfollowed := true, recurses := true, loops := true, apart := false }
def FnExactStepIndicesSaid : Prop := fnExactStepIndicesRow.holds Try.pinned (OpenSpec.ofChange fnExactStepIndicesSpec)

/-- ITS FALSE NEIGHBOUR: 'it returns false'. Refute it at one input. -/
def fnExactStepIndicesWrong : ChangeSpec := { name := "fnExactStepIndices", fn := fun _ => fun
  | [d] => { results := [.lit (.bool false)], args := [d] }
  | _ => none }
def FnExactStepIndicesWrongFalsely : Prop := fnExactStepIndicesRow.holds Try.pinned (OpenSpec.ofChange fnExactStepIndicesWrong)

/-- 'laws.FnExactPathsOf': WHATEVER THE INPUT: true; the input reads as it did. -/
def fnExactPathsOfSpec : ChangeSpec := { name := "fnExactPathsOf", fn := fun _ => fun
  | [d] => { results := [.lit (.bool true)], args := [d] }
  | _ => none }
def fnExactPathsOfRow : OpenClaim := { program := "ytihijigbdpjcoaa", sum := "dd1d69683b6f99d403c9ce8f2eb40d712299594a01ffb5db31c18000b0d8ab78", func := "loop.example/g03112/laws.FnExactPathsOf", spec := "fnExactPathsOf", unfollowed := true, recurses := true, loops := true, apart := false }
def FnExactPathsOfSaid : Prop := fnExactPathsOfRow.holds Try.pinned (OpenSpec.ofChange fnExactPathsOfSpec)

/-- ITS FALSE NEIGHBOUR: 'it returns false'. Refute it at one input. -/
def fnExactPathsOfWrong : ChangeSpec := { name := "fnExactPathsOf", fn := fun _ => fun
  | [d] => { results := [.lit (.bool false)], args := [d] }
  | _ => none }
def FnExactPathsOfWrongFalsely : Prop := fnExactPathsOfRow.holds Try.pinned (OpenSpec.ofChange fnExactPathsOfWrong)

/-- 'laws.FnExactPutAt': WHATEVER THE INPUT: true; the input reads as it did. -/
def fnExactPutAtSpec : ChangeSpec := { name := "fnExactPutAt", fn := fun _ => fun
  | [d1, d2, d3] => { results := [.lit (.bool true)], args := [d1, d2, d3] }
  | _ => none }
def fnExactPutAtRow : OpenClaim := { program := "ytihijigbdpjcoaa", sum := "dd1d69683b6f99d403c9ce8f2eb40d712299594a01ffb5db31c18000b0d8ab78", func := "loop.example/g03112/laws.FnExactPutAt", spec := "fnExactPutAt", unfollowed := true, recurses := true, loops := true, apart := false }
def FnExactPutAtSaid : Prop := fnExactPutAtRow.holds Try.pinned (OpenSpec.ofChange fnExactPutAtSpec)

/-- ITS FALSE NEIGHBOUR: 'it returns false'. Refute it at one input. -/
def fnExactPutAtWrong : ChangeSpec := { name := "fnExactPutAt", fn := fun _ => fun
  | [d1, d2, d3] => { results := [.lit (.bool false)], args := [d1, d2, d3] }
  | _ => none }
def FnExactPutAtWrongFalsely : Prop := fnExactPutAtRow.holds Try.pinned (OpenSpec.ofChange fnExactPutAtWrong)

/-- 'laws.FnExactIsGround': WHATEVER THE INPUT: true; the input reads as it did. -/
def fnExactIsGroundSpec : ChangeSpec := { name := "fnExactIsGround", fn := fun _ => fun
  | [d] => { results := [.lit (.bool true)], args := [d] }
  | _ => none }
def fnExactIsGroundRow : OpenClaim := { program := "ytihijigbdpjcoaa", sum := "dd1d69683b6f99d403c9ce8f2eb40d712299594a01ffb5db31c18000b0d8ab78", func := "loop.example/g03112/laws.FnExactIsGround", spec := "fnExactIsGround", unfollowed := true, recurses := true, loops := true, apart := false }
def FnExactIsGroundSaid : Prop := fnExactIsGroundRow.holds Try.pinned (OpenSpec.ofChange fnExactIsGroundSpec)

/-- ITS FALSE NEIGHBOUR: 'it returns false'. Refute it at one input. -/
def fnExactIsGroundWrong : ChangeSpec := { name := "fnExactIsGround", fn := fun _ => fun
  | [d] => { results := [.lit (.bool false)], args := [d] }
  | _ => none }
def FnExactIsGroundWrongFalsely : Prop := fnExactIsGroundRow.holds Try.pinned (OpenSpec.ofChange fnExactIsGroundWrong)

/- THE SECOND FORM. 'bulk': how many values and letters a reading holds, each counted each time it is reached (what is shared counts as often as it is met; a slice's spare places count too). A statement '..UptoSaid' is the law's where the arguments, and the package variables that the reading takes, are together of bulk at most 1048576: NARROWER than '..Said'. Prove '..Said' where nothing that the law and all that it calls make is longer than what came in: it says more and counts as full. Else prove '..UptoSaid'. A law counts once. -/
mutual
def uptoBulk {H : Type} : DataW H → Nat
  | .lit (.string bytes) => bytes.length + 1
  | .lit _ => 1
  | .nil => 1
  | .ptr d => uptoBulk d + 1
  | .slice elems spare => uptoBulkAll elems + uptoBulkAll spare + 1
  | .agg parts => uptoBulkAll parts + 1
  | .iface _ d => uptoBulk d + 1
  | .map entries => uptoBulkEntries entries + 1
  | .held _ => 1
def uptoBulkAll {H : Type} : List (DataW H) → Nat
  | [] => 0
  | d :: r => uptoBulk d + uptoBulkAll r
def uptoBulkEntries {H : Type} : List (Lit × DataW H) → Nat
  | [] => 0
  | x :: r => uptoBulkEntry x + uptoBulkEntries r
def uptoBulkEntry {H : Type} : Lit × DataW H → Nat
  | (.string bytes, d) => bytes.length + uptoBulk d + 1
  | (_, d) => uptoBulk d + 1
 end
def uptoSmall : (H : Type) → List (DataW H) → Bool := fun _ ds => decide (uptoBulkAll ds ≤ 1048576)
def OpenSpec.upto (s : _root_.Go.ChangeSpec) : _root_.Go.OpenSpec := { _root_.Go.OpenSpec.ofChange s with cond := some uptoSmall }

/-- 'laws.FnExactIsFunctionTerm', WHERE WHAT IT READS IS OF BULK AT MOST 1048576: true; the input reads as it did. -/
def fnExactIsFunctionTermUptoRow : OpenClaim := { program := "ytihijigbdpjcoaa", sum := "dd1d69683b6f99d403c9ce8f2eb40d712299594a01ffb5db31c18000b0d8ab78", func := "loop.example/g03112/laws.FnExactIsFunctionTerm", spec := "fnExactIsFunctionTerm", unfollowed := true, recurses := true, loops := true, apart := false, narrowed := true }
def FnExactIsFunctionTermUptoSaid : Prop := fnExactIsFunctionTermUptoRow.holds Try.pinned (OpenSpec.upto fnExactIsFunctionTermSpec)

/-- 'laws.FnExactIsIndexTerm', WHERE WHAT IT READS IS OF BULK AT MOST 1048576: true; the input reads as it did. -/
def fnExactIsIndexTermUptoRow : OpenClaim := { program := "ytihijigbdpjcoaa", sum := "dd1d69683b6f99d403c9ce8f2eb40d712299594a01ffb5db31c18000b0d8ab78", func := "loop.example/g03112/laws.FnExactIsIndexTerm", spec := "fnExactIsIndexTerm", unfollowed := true, recurses := true, loops := true, apart := false, narrowed := true }
def FnExactIsIndexTermUptoSaid : Prop := fnExactIsIndexTermUptoRow.holds Try.pinned (OpenSpec.upto fnExactIsIndexTermSpec)

/-- 'laws.FnExactIsClosed', WHERE WHAT IT READS IS OF BULK AT MOST 1048576: true; the input reads as it did. -/
def fnExactIsClosedUptoRow : OpenClaim := { program := "ytihijigbdpjcoaa", sum := "dd1d69683b6f99d403c9ce8f2eb40d712299594a01ffb5db31c18000b0d8ab78", func := "loop.example/g03112/laws.FnExactIsClosed", spec := "fnExactIsClosed", unfollowed := true, recurses := true, loops := true, apart := false, narrowed := true }
def FnExactIsClosedUptoSaid : Prop := fnExactIsClosedUptoRow.holds Try.pinned (OpenSpec.upto fnExactIsClosedSpec)

/-- 'laws.FnExactStepIndices', WHERE WHAT IT READS IS OF BULK AT MOST 1048576: true; the input reads as it did. -/
def fnExactStepIndicesUptoRow : OpenClaim := { program := "ytihijigbdpjcoaa", sum := "dd1d69683b6f99d403c9ce8f2eb40d712299594a01ffb5db31c18000b0d8ab78", func := "loop.example/g03112/laws.FnExactStepIndices", spec := "fnExactStepIndices", unfollowed := true, recurses := true, loops := true, apart := false, narrowed := true }
def FnExactStepIndicesUptoSaid : Prop := fnExactStepIndicesUptoRow.holds Try.pinned (OpenSpec.upto fnExactStepIndicesSpec)

/-- 'laws.FnExactPathsOf', WHERE WHAT IT READS IS OF BULK AT MOST 1048576: true; the input reads as it did. -/
def fnExactPathsOfUptoRow : OpenClaim := { program := "ytihijigbdpjcoaa", sum := "dd1d69683b6f99d403c9ce8f2eb40d712299594a01ffb5db31c18000b0d8ab78", func := "loop.example/g03112/laws.FnExactPathsOf", spec := "fnExactPathsOf", unfollowed := true, recurses := true, loops := true, apart := false, narrowed := true }
def FnExactPathsOfUptoSaid : Prop := fnExactPathsOfUptoRow.holds Try.pinned (OpenSpec.upto fnExactPathsOfSpec)

/-- 'laws.FnExactPutAt', WHERE WHAT IT READS IS OF BULK AT MOST 1048576: true; the input reads as it did. -/
def fnExactPutAtUptoRow : OpenClaim := { program := "ytihijigbdpjcoaa", sum := "dd1d69683b6f99d403c9ce8f2eb40d712299594a01ffb5db31c18000b0d8ab78", func := "loop.example/g03112/laws.FnExactPutAt", spec := "fnExactPutAt", unfollowed := true, recurses := true, loops := true, apart := false, narrowed := true }
def FnExactPutAtUptoSaid : Prop := fnExactPutAtUptoRow.holds Try.pinned (OpenSpec.upto fnExactPutAtSpec)

/-- 'laws.FnExactIsGround', WHERE WHAT IT READS IS OF BULK AT MOST 1048576: true; the input reads as it did. -/
def fnExactIsGroundUptoRow : OpenClaim := { program := "ytihijigbdpjcoaa", sum := "dd1d69683b6f99d403c9ce8f2eb40d712299594a01ffb5db31c18000b0d8ab78", func := "loop.example/g03112/laws.FnExactIsGround", spec := "fnExactIsGround", unfollowed := true, recurses := true, loops := true, apart := false, narrowed := true }
def FnExactIsGroundUptoSaid : Prop := fnExactIsGroundUptoRow.holds Try.pinned (OpenSpec.upto fnExactIsGroundSpec)

end Rows
end Go.Proofs.Ytihijigbdpjcoaa
