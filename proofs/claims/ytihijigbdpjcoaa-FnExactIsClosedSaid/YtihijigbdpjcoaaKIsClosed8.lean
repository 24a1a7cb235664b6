/-
  The law's own copies of an argument: its size is counted, each pair is copied, as contracts.
-/
import Derived.Test.YtihijigbdpjcoaaKIsClosed1
import Derived.WalkLawsBesides
import Derived.WalkSpells
namespace Go.Proofs.Ytihijigbdpjcoaa
open Go.RowKit

end Go.Proofs.Ytihijigbdpjcoaa
