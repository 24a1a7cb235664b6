/-
  Numbers sorted, each once, also of none: in the program, as a contract.
-/
import Derived.Test.YtnamlgacjhnpnaaKPlaces22
import Derived.Test.YtnamlgacjhnpnaaKPlaces23
namespace Go.Proofs.Ytnamlgacjhnpnaa
open Go.RowKit Go.Sort
set_option linter.unusedVariables false

end Go.Proofs.Ytnamlgacjhnpnaa
