/-
  The laws' own comparison of two values that read as the same term, as contracts.
-/
import Derived.Test.YtkhjdidcpoefdaaKComplementMachine3
import Derived.Test.YtkhjdidcpoefdaaKComplementMachine5
import Derived.Deep.RegionHeld3
import Derived.Deep.DrawnRows
namespace Go.Proofs.Ytkhjdidcpoefdaa
open Go.RowKit Go.Sort

/-- Yes, and new blocks at most. -/
def YesPost (w : World) (e : Ending) (w' : World) : Prop := e = .returned (.bool true) ∧ Below w.heap.size w w'

end Go.Proofs.Ytkhjdidcpoefdaa
