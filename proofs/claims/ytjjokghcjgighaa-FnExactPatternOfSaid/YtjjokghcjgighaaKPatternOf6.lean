/-
  Whether a list has a number: in the model, as a contract.
-/
import Derived.Test.YtjjokghcjgighaaKPatternOf5
import Derived.Test.YtjjokghcjgighaaKPatternOf2
namespace Go.Proofs.Ytjjokghcjgighaa
open Go.RowKit Go.Sort

/-- Whether a list has a number. -/
def hasB (l : List Int) (a : Int) : Bool := l.contains a

end Go.Proofs.Ytjjokghcjgighaa
