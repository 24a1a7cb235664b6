/-
  The laws' own comparison of two values that read as the same term, as contracts. Formulas: their sizes, copies and comparison in the laws, as contracts.
-/
import Derived.Test.YtnamlgacjhnpnaaGreatKReduced3
import Derived.Test.YtnamlgacjhnpnaaGreatKReduced4
import Derived.Deep.RegionHeld3
import Derived.Deep.DrawnRows
import Derived.Test.YtnamlgacjhnpnaaGreatKReduced8
section
namespace Go.Proofs.YtnamlgacjhnpnaaGreat
open Go.RowKit Go.Sort

end Go.Proofs.YtnamlgacjhnpnaaGreat
end

section
namespace Go.Proofs.YtnamlgacjhnpnaaGreat
open Go.RowKit Go.Sort
set_option linter.unusedVariables false

end Go.Proofs.YtnamlgacjhnpnaaGreat
end

