/-
  Copying a list of integers, as a contract.
-/
import Derived.Test.YthjkogighppeaaaKSetOfFormula2
import Derived.WalkLawsBesides
import Derived.WalkSpells
import Derived.Lib.QuietBelow
namespace Go.Proofs.Ythjkogighppeaaa
open Go.RowKit Go.Sort

end Go.Proofs.Ythjkogighppeaaa
