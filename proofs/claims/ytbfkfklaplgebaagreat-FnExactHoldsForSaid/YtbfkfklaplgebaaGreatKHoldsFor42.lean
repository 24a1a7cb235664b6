/-
  The canonical term in the model, and CanonicalTerm of the model, as contracts.
-/
import Derived.Test.YtbfkfklaplgebaaGreatKHoldsFor25
import Derived.Test.YtbfkfklaplgebaaGreatKHoldsFor17
import Derived.Test.YtbfkfklaplgebaaGreatKHoldsFor7
import Derived.Test.YtbfkfklaplgebaaGreatKHoldsFor23
import Derived.Test.YtbfkfklaplgebaaGreatKHoldsFor18
namespace Go.Proofs.YtbfkfklaplgebaaGreat
open Go.RowKit Go.Sort
set_option linter.unusedVariables false

theorem map_take_nextT {f : Tm → Tm} {ts : List Tm} {k : Nat} (h : k < ts.length) : (ts.take (k + 1)).map f = (ts.take k).map f ++ [f (tmAt ts k)] := by
  rw [tm_take_next h, List.map_append]; rfl

end Go.Proofs.YtbfkfklaplgebaaGreat
