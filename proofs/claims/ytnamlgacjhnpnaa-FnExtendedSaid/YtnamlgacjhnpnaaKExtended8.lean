/-
  The laws' own comparison of two values that read as the same term, as contracts. Formulas: their sizes, copies and comparison in the laws, as contracts.
-/
import Derived.Test.YtnamlgacjhnpnaaKExtended3
import Derived.Test.YtnamlgacjhnpnaaKExtended4
import Derived.Deep.RegionHeld3
import Derived.Deep.DrawnRows
import Derived.Test.YtnamlgacjhnpnaaKExtended7
section
namespace Go.Proofs.Ytnamlgacjhnpnaa
open Go.RowKit Go.Sort

end Go.Proofs.Ytnamlgacjhnpnaa
end

section
namespace Go.Proofs.Ytnamlgacjhnpnaa
open Go.RowKit Go.Sort
set_option linter.unusedVariables false

end Go.Proofs.Ytnamlgacjhnpnaa
end

