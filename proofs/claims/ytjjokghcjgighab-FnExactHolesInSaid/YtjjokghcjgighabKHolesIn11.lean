/-
  Copying a list of integers, as a contract.
-/
import Derived.Test.YtjjokghcjgighabKHolesIn2
import Derived.WalkLawsBesides
import Derived.WalkSpells
import Derived.Lib.QuietBelow
namespace Go.Proofs.Ytjjokghcjgighab
open Go.RowKit Go.Sort

end Go.Proofs.Ytjjokghcjgighab
