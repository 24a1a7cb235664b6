/-
  Numbers sorted, each once, also of none: in the program, as a contract.
-/
import Derived.Test.YtnamlgacjhnpnaaKCounted20
import Derived.Test.YtnamlgacjhnpnaaKCounted21
namespace Go.Proofs.Ytnamlgacjhnpnaa
open Go.RowKit Go.Sort
set_option linter.unusedVariables false

end Go.Proofs.Ytnamlgacjhnpnaa
