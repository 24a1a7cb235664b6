/-
  An append of numbers within a drawn region, guarded or not: a step.
-/
import Derived.Test.YtnamlgacjhnpnaaKExtended12
import Derived.Test.YtnamlgacjhnpnaaKExtended23
import Derived.Test.YtnamlgacjhnpnaaKExtended18
namespace Go.Proofs.Ytnamlgacjhnpnaa
open Go.RowKit Go.Sort
set_option linter.unusedVariables false

end Go.Proofs.Ytnamlgacjhnpnaa
