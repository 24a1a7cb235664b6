/-
  The canonical term in the model, and CanonicalTerm of the model, as contracts.
-/
import Derived.Test.YtbfkfklaplgebaaGreatKContextUnder22
import Derived.Test.YtbfkfklaplgebaaGreatKContextUnder21
import Derived.Test.YtbfkfklaplgebaaGreatKContextUnder7
import Derived.Test.YtbfkfklaplgebaaGreatKContextUnder20
import Derived.Test.YtbfkfklaplgebaaGreatKContextUnder32
namespace Go.Proofs.YtbfkfklaplgebaaGreat
open Go.RowKit Go.Sort
set_option linter.unusedVariables false

end Go.Proofs.YtbfkfklaplgebaaGreat
