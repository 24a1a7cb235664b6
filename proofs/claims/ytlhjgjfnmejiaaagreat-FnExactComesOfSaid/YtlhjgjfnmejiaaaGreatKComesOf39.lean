/-
  The canonical term in the model, and CanonicalTerm of the model, as contracts.
-/
import Derived.Test.YtlhjgjfnmejiaaaGreatKComesOf25
import Derived.Test.YtlhjgjfnmejiaaaGreatKComesOf17
import Derived.Test.YtlhjgjfnmejiaaaGreatKComesOf7
import Derived.Test.YtlhjgjfnmejiaaaGreatKComesOf23
import Derived.Test.YtlhjgjfnmejiaaaGreatKComesOf18
namespace Go.Proofs.YtlhjgjfnmejiaaaGreat
open Go.RowKit Go.Sort
set_option linter.unusedVariables false

theorem map_take_nextT {f : Tm → Tm} {ts : List Tm} {k : Nat} (h : k < ts.length) : (ts.take (k + 1)).map f = (ts.take k).map f ++ [f (tmAt ts k)] := by
  rw [tm_take_next h, List.map_append]; rfl

end Go.Proofs.YtlhjgjfnmejiaaaGreat
