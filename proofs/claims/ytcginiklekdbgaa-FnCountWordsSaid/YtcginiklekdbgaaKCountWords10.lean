/-
  A tuple that the model draws: a contract. A word that the model draws: a contract.
-/
import Derived.Test.YtcginiklekdbgaaKCountWords3
import Derived.Laws.AppendOwnNone
section
namespace Go.Proofs.Ytcginiklekdbgaa
open Go.RowKit Go.Sort
set_option linter.unusedVariables false

namespace DrawN
def bcells (f : Nat → Nat) (n : Nat) : List Value := (List.range n).map fun j => .int .u8 (f j)
theorem bcells_at (f : Nat → Nat) {n j : Nat} (h : j < n) : (bcells f n)[j]? = some (.int .u8 (f j)) := by simp [bcells, h]
end DrawN

end Go.Proofs.Ytcginiklekdbgaa
end

section
namespace Go.Proofs.Ytcginiklekdbgaa
open Go.RowKit Go.Sort
set_option linter.unusedVariables false

namespace DrawN
end DrawN

end Go.Proofs.Ytcginiklekdbgaa
end

