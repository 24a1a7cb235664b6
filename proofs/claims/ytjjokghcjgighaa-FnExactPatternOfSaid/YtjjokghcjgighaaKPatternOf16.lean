/-
  Numbering the cells of a list of pairs, and looking whether they are still numbered so, as contracts.
-/
import Derived.Test.YtjjokghcjgighaaKPatternOf1
import Derived.WalkLawsBesides
import Derived.WalkSpells
namespace Go.Proofs.Ytjjokghcjgighaa
open Go.RowKit

end Go.Proofs.Ytjjokghcjgighaa
