/-
  Copying a list of integers, as a contract.
-/
import Derived.Test.YtnnebndcjjdhoaaKPathsOf1
import Derived.WalkLawsBesides
import Derived.WalkSpells
import Derived.Lib.QuietBelow
namespace Go.Proofs.Ytnnebndcjjdhoaa
open Go.RowKit Go.Sort

end Go.Proofs.Ytnnebndcjjdhoaa
