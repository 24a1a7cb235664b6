/-
  Orbit sets in the program: whether they are valid, as contracts.
-/
import Derived.Test.YtnnebndcjjdhoaaKPathsOf9
import Derived.Test.YtnnebndcjjdhoaaKPathsOf2
import Derived.Test.YtnnebndcjjdhoaaKPathsOf10
namespace Go.Proofs.Ytnnebndcjjdhoaa
open Go.RowKit Go.Sort
set_option linter.unusedVariables false

end Go.Proofs.Ytnnebndcjjdhoaa
