/-
  An argument that is a slice of pairs, opened: it reads as a list of pairs.
-/
import Derived.Test.YtipccjonkgjccaaKNewSession2
import Derived.Deep.SlicePairs
import Derived.ProofKit
import Derived.OpenShut
import Derived.ChangeOld
namespace Go.Proofs.Ytipccjonkgjccaa
open Go.RowKit Go.Deep Go.ChangeShapes Go.WideShapes

theorem own : ownKnob Try.prog.godebug = none := by kernel_rfl
end Go.Proofs.Ytipccjonkgjccaa
