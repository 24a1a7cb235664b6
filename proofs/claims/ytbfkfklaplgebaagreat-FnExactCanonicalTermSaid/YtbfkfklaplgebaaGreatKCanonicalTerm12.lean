/-
  The comparison of two pairs, in the program, as a contract. The comparison of two elements of contexts, in the program, as a contract. Whether a list of elements is a context, as the program decides it: a contract. Lists of elements of contexts in order: an element put in its place, lists joined, what is told by its members alone.
-/
import Derived.Test.YtbfkfklaplgebaaGreatKCanonicalTerm5
import Derived.StillTailTactics
import Derived.OwnWalk
import Derived.Laws.Pointers
import Derived.Sort.Grow
import Derived.Test.YtbfkfklaplgebaaGreatKCanonicalTerm6
section
namespace Go.Proofs.YtbfkfklaplgebaaGreat
section
open Go.RowKit Go.Sort

end

section
open Go.RowKit Go.Sort
set_option linter.unusedVariables false

end
end Go.Proofs.YtbfkfklaplgebaaGreat
end

section
namespace Go.Proofs.YtbfkfklaplgebaaGreat
open Go.RowKit Go.Sort
set_option linter.unusedVariables false

def holeB (n : Int) : Bool := decide (0 ≤ n ∧ n ≤ 9)
end Go.Proofs.YtbfkfklaplgebaaGreat
end

section
namespace Go.Proofs.YtbfkfklaplgebaaGreat
open Go.RowKit Go.Sort
set_option linter.unusedVariables false

end Go.Proofs.YtbfkfklaplgebaaGreat
end

