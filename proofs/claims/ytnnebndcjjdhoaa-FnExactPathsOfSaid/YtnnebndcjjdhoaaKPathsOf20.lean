/-
  A table that is laid and stored in a statement that draws its order.
-/
import Derived.Test.YtnnebndcjjdhoaaKPathsOf19
import Derived.Deep.DeepCutAuto
namespace Go.Proofs.Ytnnebndcjjdhoaa
open Go.RowKit Go.Sort
set_option linter.unusedVariables false

end Go.Proofs.Ytnnebndcjjdhoaa
