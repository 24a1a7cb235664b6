/-
  Tables of codes in the program: the patterns of a table, tables with one place more, all patterns, as contracts. All patterns in the program and in the model: allCodes, PatternsOf, as contracts. An orbit set of a table, and of tuples: setOfCodes, setOfTuples in the program, as contracts.
-/
import Derived.Test.YtnnebndcjjdhoaaKPathsOf16
import Derived.Test.YtnnebndcjjdhoaaKPathsOf17
import Derived.Test.YtnnebndcjjdhoaaKPathsOf18
import Derived.Test.YtnnebndcjjdhoaaKPathsOf9
import Derived.Deep.RegionHeld3
import Derived.Deep.DrawnRows
import Derived.Deep.MidRow
section
namespace Go.Proofs.Ytnnebndcjjdhoaa
open Go.RowKit Go.Sort
set_option linter.unusedVariables false

end Go.Proofs.Ytnnebndcjjdhoaa
end

section
namespace Go.Proofs.Ytnnebndcjjdhoaa
open Go.RowKit Go.Sort
set_option linter.unusedVariables false

end Go.Proofs.Ytnnebndcjjdhoaa
end

section
namespace Go.Proofs.Ytnnebndcjjdhoaa
open Go.RowKit Go.Sort
set_option linter.unusedVariables false

end Go.Proofs.Ytnnebndcjjdhoaa
end

