/-
  Copying a list of integers, as a contract.
-/
import Derived.Test.YtenejdfnhkbafaaKAreRules2
import Derived.WalkLawsBesides
import Derived.WalkSpells
import Derived.Lib.QuietBelow
namespace Go.Proofs.Ytenejdfnhkbafaa
open Go.RowKit Go.Sort

end Go.Proofs.Ytenejdfnhkbafaa
