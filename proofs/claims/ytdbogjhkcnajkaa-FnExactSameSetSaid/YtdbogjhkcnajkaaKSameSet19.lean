/-
  Whether every number of the one list is in the other, in the program: areAmong as a contract.
-/
import Derived.Test.YtdbogjhkcnajkaaKSameSet4
import Derived.Test.YtdbogjhkcnajkaaKSameSet10
namespace Go.Proofs.Ytdbogjhkcnajkaa
open Go.RowKit Go.Sort
set_option linter.unusedVariables false

namespace RuleK
end RuleK

end Go.Proofs.Ytdbogjhkcnajkaa
