/-
  Pairs of numbers that are put behind a row of the call's own, wherever they lie, also where there are none. Rows of pairs of numbers that are sorted: the library's words on rows and this text's.
-/
import Derived.Test.YthjkogighppeaaaKSetOfFormula2
import Derived.Lib.SliceRun
import Derived.Laws.AppendOwnNone
import Derived.OwnWalk
import Derived.Shelf.SlSortCmp.WholeK
import Derived.Shelf.SlSortCmp.NoneTotal
import Derived.Lib.OwnBridge
namespace Go.Proofs.Ythjkogighppeaaa
section
open Go.RowKit
set_option linter.unusedVariables false

end

section
open Go.RowKit Go.Sort Go.Lib Go.Shelf

theorem below_grow (w : World) (os : Array Obj) : Below w.heap.size w (grow w os) :=
  ⟨rfl, rfl, rfl, by simp [grow], fun k hk => by simp [grow, Array.getElem?_append, hk]⟩
end
end Go.Proofs.Ythjkogighppeaaa
