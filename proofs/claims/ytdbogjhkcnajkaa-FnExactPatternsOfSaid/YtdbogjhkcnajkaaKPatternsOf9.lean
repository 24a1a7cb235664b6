/-
  Copying a list of integers, as a contract.
-/
import Derived.Test.YtdbogjhkcnajkaaKPatternsOf1
import Derived.WalkLawsBesides
import Derived.WalkSpells
import Derived.Lib.QuietBelow
namespace Go.Proofs.Ytdbogjhkcnajkaa
open Go.RowKit Go.Sort

end Go.Proofs.Ytdbogjhkcnajkaa
