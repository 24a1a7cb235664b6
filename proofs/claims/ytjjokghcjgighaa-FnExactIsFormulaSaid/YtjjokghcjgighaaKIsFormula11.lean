/-
  Constants, tuples and patterns in the model, as contracts.
-/
import Derived.Test.YtjjokghcjgighaaKIsFormula9
import Derived.Laws.AppendOwnNone
namespace Go.Proofs.Ytjjokghcjgighaa
open Go.RowKit Go.Sort
set_option linter.unusedVariables false

end Go.Proofs.Ytjjokghcjgighaa
