/-
  The laws' own comparison of two values that read as the same term, as contracts.
-/
import Derived.Test.YtnamlgacjhnpnaaKPatterns1
import Derived.Test.YtnamlgacjhnpnaaKPatterns4
import Derived.Deep.RegionHeld3
import Derived.Deep.DrawnRows
namespace Go.Proofs.Ytnamlgacjhnpnaa
open Go.RowKit Go.Sort

end Go.Proofs.Ytnamlgacjhnpnaa
