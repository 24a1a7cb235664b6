/-
  The free atoms of a form, in the program, as contracts. The free atoms of a term, in the program, as a contract. Whether an atom is fresh for a ground term: in the program and in the model, as contracts. Rows of terms that a call makes by appending; a copy of pairs: plain words and a contract. Pairs that are put behind a row of the call's own, wherever they lie, also where there are none: as laws for the walk.
-/
import Derived.Test.YtbfkfklaplgebaaGreatKContextUnder13
import Derived.Test.YtbfkfklaplgebaaGreatKContextUnder12
import Derived.Test.YtbfkfklaplgebaaGreatKContextUnder18
import Derived.Test.YtbfkfklaplgebaaGreatKContextUnder2
import Derived.Lib.SliceRun
import Derived.Test.YtbfkfklaplgebaaGreatKContextUnder7
import Derived.Test.YtbfkfklaplgebaaGreatKContextUnder5
import Derived.Test.YtbfkfklaplgebaaGreatKContextUnder17
import Derived.Laws.AppendOwnNone
section
namespace Go.Proofs.YtbfkfklaplgebaaGreat
open Go.RowKit Go.Sort Go.Shelf
set_option linter.unusedVariables false

end Go.Proofs.YtbfkfklaplgebaaGreat
end

section
namespace Go.Proofs.YtbfkfklaplgebaaGreat
open Go.RowKit Go.Sort
set_option linter.unusedVariables false

end Go.Proofs.YtbfkfklaplgebaaGreat
end

section
namespace Go.Proofs.YtbfkfklaplgebaaGreat
open Go.RowKit Go.Sort
set_option linter.unusedVariables false

end Go.Proofs.YtbfkfklaplgebaaGreat
end

section
namespace Go.Proofs.YtbfkfklaplgebaaGreat
section
open Go.RowKit Go.Sort
set_option linter.unusedVariables false

end

section
open Go.RowKit Go.Sort
set_option linter.unusedVariables false

end
end Go.Proofs.YtbfkfklaplgebaaGreat
end

