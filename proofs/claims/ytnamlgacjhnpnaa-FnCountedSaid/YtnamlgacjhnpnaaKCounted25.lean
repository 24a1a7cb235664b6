/-
  ExtendSet of both sides, as contracts. l6Both of the model: what is in one of two orbit sets, or in both, as a contract.
-/
import Derived.Test.YtnamlgacjhnpnaaKCounted18
import Derived.Test.YtnamlgacjhnpnaaKCounted16
import Derived.Test.YtnamlgacjhnpnaaKCounted15
section
namespace Go.Proofs.Ytnamlgacjhnpnaa
open Go.RowKit Go.Sort
set_option linter.unusedVariables false

end Go.Proofs.Ytnamlgacjhnpnaa
end

section
namespace Go.Proofs.Ytnamlgacjhnpnaa
open Go.RowKit Go.Sort
set_option linter.unusedVariables false

end Go.Proofs.Ytnamlgacjhnpnaa
end

