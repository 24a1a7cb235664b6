/-
  Numbers sorted, each once, in the program, as a contract. The atoms that two lists of pairs move: in the program, as contracts. The atoms to which two permutations give different ones: plain words and small contracts. First one list of pairs, then another: in the model and in the program, as contracts.
-/
import Derived.Test.YtbfkfklaplgebaaGreatKFreshIn18
import Derived.Test.YtbfkfklaplgebaaGreatKFreshIn5
import Derived.Test.YtbfkfklaplgebaaGreatKFreshIn2
import Derived.Lib.OwnBridge
import Derived.Maps.AppendAt
import Derived.Deep.RegionWith
section
namespace Go.Proofs.YtbfkfklaplgebaaGreat
section
open Go.RowKit Go.Sort

end

section
open Go.RowKit Go.Sort

end
end Go.Proofs.YtbfkfklaplgebaaGreat
end

section
namespace Go.Proofs.YtbfkfklaplgebaaGreat
open Go.RowKit Go.Sort

end Go.Proofs.YtbfkfklaplgebaaGreat
end

section
namespace Go.Proofs.YtbfkfklaplgebaaGreat
open Go.RowKit Go.Sort

end Go.Proofs.YtbfkfklaplgebaaGreat
end

