/-
  Orbit sets in the program: whether they are valid, as contracts. HasTuple in the program, as a contract.
-/
import Derived.Test.YtnamlgacjhnpnaaKPatterns11
import Derived.Test.YtnamlgacjhnpnaaKPatterns4
import Derived.Test.YtnamlgacjhnpnaaKPatterns6
section
namespace Go.Proofs.Ytnamlgacjhnpnaa
open Go.RowKit Go.Sort
set_option linter.unusedVariables false

end Go.Proofs.Ytnamlgacjhnpnaa
end

section
namespace Go.Proofs.Ytnamlgacjhnpnaa
open Go.RowKit Go.Sort
set_option linter.unusedVariables false

end Go.Proofs.Ytnamlgacjhnpnaa
end

