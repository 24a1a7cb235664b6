/-
  Numbers sorted, each once, in the program, as a contract. The atoms that two lists of pairs move: in the program, as contracts.
-/
import Derived.Test.YtnamlgacjhnpnaaKExtended21
import Derived.Test.YtnamlgacjhnpnaaKExtended4
import Derived.Test.YtnamlgacjhnpnaaKExtended1
import Derived.Lib.OwnBridge
namespace Go.Proofs.Ytnamlgacjhnpnaa
section
open Go.RowKit Go.Sort

end

section
open Go.RowKit Go.Sort

end
end Go.Proofs.Ytnamlgacjhnpnaa
