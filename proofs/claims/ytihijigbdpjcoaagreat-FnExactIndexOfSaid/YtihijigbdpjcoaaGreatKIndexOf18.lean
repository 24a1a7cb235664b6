/-
  Copying a list of integers, as a contract.
-/
import Derived.Test.YtihijigbdpjcoaaGreatKIndexOf2
import Derived.WalkLawsBesides
import Derived.WalkSpells
import Derived.Lib.QuietBelow
namespace Go.Proofs.YtihijigbdpjcoaaGreat
open Go.RowKit Go.Sort

end Go.Proofs.YtihijigbdpjcoaaGreat
