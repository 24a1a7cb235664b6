/-
  A binder with another atom in the place of its own, in the program, as a contract.
-/
import Derived.Test.YtnomidnjglbedaaKTermAt15
import Derived.Test.YtnomidnjglbedaaKTermAt20
namespace Go.Proofs.Ytnomidnjglbedaa
open Go.RowKit Go.Sort
set_option linter.unusedVariables false

end Go.Proofs.Ytnomidnjglbedaa
