/-
  Tables of codes in the program: codesOf and what a table's value is, as contracts.
-/
import Derived.Test.YtnnebndcjjdhoaaKPathsOf15
import Derived.Test.YtnnebndcjjdhoaaKPathsOf12
import Derived.Laws.Rows
import Derived.Laws.Tables
namespace Go.Proofs.Ytnnebndcjjdhoaa
open Go.RowKit Go.Sort
set_option linter.unusedVariables false

end Go.Proofs.Ytnnebndcjjdhoaa
