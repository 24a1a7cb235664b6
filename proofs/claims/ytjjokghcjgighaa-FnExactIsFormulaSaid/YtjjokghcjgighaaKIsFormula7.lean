/-
  Copying a list of integers, as a contract.
-/
import Derived.Test.YtjjokghcjgighaaKIsFormula2
import Derived.WalkLawsBesides
import Derived.WalkSpells
import Derived.Lib.QuietBelow
namespace Go.Proofs.Ytjjokghcjgighaa
open Go.RowKit Go.Sort

end Go.Proofs.Ytjjokghcjgighaa
