/-
  A table that is laid and stored in a statement that draws its order.
-/
import Derived.Test.YtcginiklekdbgaaKCountWords19
import Derived.Deep.DeepCutAuto
namespace Go.Proofs.Ytcginiklekdbgaa
open Go.RowKit Go.Sort
set_option linter.unusedVariables false

end Go.Proofs.Ytcginiklekdbgaa
