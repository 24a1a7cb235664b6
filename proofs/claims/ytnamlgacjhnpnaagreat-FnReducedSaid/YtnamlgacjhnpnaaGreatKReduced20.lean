/-
  Whether every number of the one list is in the other, in the program: areAmong as a contract.
-/
import Derived.Test.YtnamlgacjhnpnaaGreatKReduced5
import Derived.Test.YtnamlgacjhnpnaaGreatKReduced10
namespace Go.Proofs.YtnamlgacjhnpnaaGreat
open Go.RowKit Go.Sort
set_option linter.unusedVariables false

namespace RuleK
end RuleK

end Go.Proofs.YtnamlgacjhnpnaaGreat
