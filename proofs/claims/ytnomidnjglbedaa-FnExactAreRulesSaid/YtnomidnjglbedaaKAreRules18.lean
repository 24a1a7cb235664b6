/-
  Copying a list of integers, as a contract.
-/
import Derived.Test.YtnomidnjglbedaaKAreRules2
import Derived.WalkLawsBesides
import Derived.WalkSpells
import Derived.Lib.QuietBelow
namespace Go.Proofs.Ytnomidnjglbedaa
open Go.RowKit Go.Sort

end Go.Proofs.Ytnomidnjglbedaa
