/-
  The atoms to which two permutations give different ones, in the program and in the model, as contracts.
-/
import Derived.Test.YtianehmfdcdojaaDiffP
namespace Go.Proofs.Ytianehmfdcdojaa
open Go.RowKit Go.Sort

end Go.Proofs.Ytianehmfdcdojaa
