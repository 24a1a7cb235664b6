/-
  All patterns, what is among them, and valid orbit sets: in the model, as contracts. Orbit sets in the model: whether they are valid, as contracts. The patterns that are among those of a list, as an orbit set: in the model, as a contract.
-/
import Derived.Test.YtnamlgacjhnpnaaKPatterns15
import Derived.Test.YtnamlgacjhnpnaaKPatterns13
import Derived.Test.YtnamlgacjhnpnaaKPatterns4
section
namespace Go.Proofs.Ytnamlgacjhnpnaa
open Go.RowKit Go.Sort
set_option linter.unusedVariables false

end Go.Proofs.Ytnamlgacjhnpnaa
end

section
namespace Go.Proofs.Ytnamlgacjhnpnaa
open Go.RowKit Go.Sort
set_option linter.unusedVariables false

end Go.Proofs.Ytnamlgacjhnpnaa
end

section
namespace Go.Proofs.Ytnamlgacjhnpnaa
open Go.RowKit Go.Sort
set_option linter.unusedVariables false

end Go.Proofs.Ytnamlgacjhnpnaa
end

