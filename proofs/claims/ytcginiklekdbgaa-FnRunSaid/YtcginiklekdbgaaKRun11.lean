/-
  Pairs of numbers that are put behind a row of the call's own, wherever they lie, also where there are none. Rows of pairs of numbers that are sorted: the library's words on rows and this text's.
-/
import Derived.Test.YtcginiklekdbgaaKRun2
import Derived.Lib.SliceRun
import Derived.Laws.AppendOwnNone
import Derived.OwnWalk
import Derived.Shelf.SlSortCmp.WholeK
import Derived.Shelf.SlSortCmp.NoneTotal
import Derived.Lib.OwnBridge
namespace Go.Proofs.Ytcginiklekdbgaa
section
open Go.RowKit
set_option linter.unusedVariables false

end

section
open Go.RowKit Go.Sort Go.Lib Go.Shelf

theorem cellsOf_append (a b : List (Int × Int)) : cellsOf (a ++ b) = cellsOf a ++ cellsOf b := by simp [cellsOf]

theorem pair_cells {w : World} {g : Nat} {u v : Value} (h : w.cell? ⟨g, 0, none⟩ = some u) (h' : w.cell? ⟨g, 1, none⟩ = some v) : ∀ j x, [u, v][j]? = some x → w.cell? ((⟨g, 0, none⟩ : Addr).add j) = some x := by
  intro j x hj
  cases j with
  | zero => simp at hj; subst hj; simpa [Addr.add] using h
  | succ j =>
    cases j with
    | zero => simp at hj; subst hj; simpa [Addr.add] using h'
    | succ j => simp at hj

theorem pair_one (a b : Int) : ∀ u ∈ [Value.int .i64 a, Value.int .i64 b], u.oneCell' = true := by
  intro u hu
  simp at hu
  rcases hu with rfl | rfl <;> rfl

end
end Go.Proofs.Ytcginiklekdbgaa
