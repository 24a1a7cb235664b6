/-
  An append of numbers within a drawn region, guarded or not: a step.
-/
import Derived.Test.YtcginiklekdbgaaKCountWords13
import Derived.Test.YtcginiklekdbgaaKCountWords16
import Derived.Test.YtcginiklekdbgaaKCountWords20
namespace Go.Proofs.Ytcginiklekdbgaa
open Go.RowKit Go.Sort
set_option linter.unusedVariables false

/-- A list in a box of its own. -/
theorem lit_ints {w : World} {g : Nat} {l : List Int} {T : TypeId} (h : w.heap[g]? = some (.cells (icells l).toArray T (0, 0))) : IntsAt w (some ⟨g, 0, none⟩) l := by
  intro _
  refine ⟨g, 0, rfl, (Array.getElem?_eq_some_iff.1 h).1, fun i hi => ?_⟩
  rw [cell_of_row _ _ _ _ _ _ h]
  rw [Nat.zero_add, List.getElem?_toArray]
  exact icells_at l i hi
end Go.Proofs.Ytcginiklekdbgaa
