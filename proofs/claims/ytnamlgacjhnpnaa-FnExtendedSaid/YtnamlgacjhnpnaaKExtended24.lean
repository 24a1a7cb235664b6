/-
  Numbers sorted, each once, also of none: in the program, as a contract.
-/
import Derived.Test.YtnamlgacjhnpnaaKExtended22
import Derived.Test.YtnamlgacjhnpnaaKExtended23
namespace Go.Proofs.Ytnamlgacjhnpnaa
open Go.RowKit Go.Sort
set_option linter.unusedVariables false

end Go.Proofs.Ytnamlgacjhnpnaa
