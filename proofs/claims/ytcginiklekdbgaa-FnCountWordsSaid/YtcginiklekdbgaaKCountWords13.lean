/-
  Swapping two atoms: the program's function and the model's, as contracts.
-/
import Derived.Test.YtcginiklekdbgaaKCountWords2
import Derived.WalkLawsBesides
import Derived.WalkSpells
import Derived.BigQuiet
namespace Go.Proofs.Ytcginiklekdbgaa
open Go.RowKit

end Go.Proofs.Ytcginiklekdbgaa
