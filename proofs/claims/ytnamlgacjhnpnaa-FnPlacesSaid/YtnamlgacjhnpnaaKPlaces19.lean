/-
  Whether every number of the one list is in the other, in the program: areAmong as a contract.
-/
import Derived.Test.YtnamlgacjhnpnaaKPlaces4
import Derived.Test.YtnamlgacjhnpnaaKPlaces9
namespace Go.Proofs.Ytnamlgacjhnpnaa
open Go.RowKit Go.Sort
set_option linter.unusedVariables false

namespace RuleK
end RuleK

end Go.Proofs.Ytnamlgacjhnpnaa
