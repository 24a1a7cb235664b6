/-
  Whether a list of pairs is a permutation, as the program decides it: a contract.
-/
import Derived.Test.YtjjokghcjgighaaKPatternOf5
namespace Go.Proofs.Ytjjokghcjgighaa
open Go.RowKit Go.Sort

end Go.Proofs.Ytjjokghcjgighaa
