/-
  An argument that is a slice of pairs, opened: it reads as a list of pairs.
-/
import Derived.Test.YtdbogjhkcnajkaaKPatternsOf1
import Derived.Deep.SlicePairs
import Derived.ProofKit
import Derived.OpenShut
import Derived.ChangeOld
namespace Go.Proofs.Ytdbogjhkcnajkaa
open Go.RowKit Go.Deep Go.ChangeShapes Go.WideShapes

theorem laidOut : laidOutB Try.prog = true := by kernel_rfl
theorem own : ownKnob Try.prog.godebug = none := by kernel_rfl
end Go.Proofs.Ytdbogjhkcnajkaa
