/-
  An append of numbers within a drawn region, guarded or not: a step.
-/
import Derived.Test.YtnamlgacjhnpnaaGreatKReduced13
import Derived.Test.YtnamlgacjhnpnaaGreatKReduced24
import Derived.Test.YtnamlgacjhnpnaaGreatKReduced19
namespace Go.Proofs.YtnamlgacjhnpnaaGreat
open Go.RowKit Go.Sort
set_option linter.unusedVariables false

/-- A list in a box of its own. -/
theorem lit_ints {w : World} {g : Nat} {l : List Int} {T : TypeId} (h : w.heap[g]? = some (.cells (icells l).toArray T (0, 0))) : IntsAt w (some ⟨g, 0, none⟩) l := by
  intro _
  refine ⟨g, 0, rfl, (Array.getElem?_eq_some_iff.1 h).1, fun i hi => ?_⟩
  rw [cell_of_row _ _ _ _ _ _ h]
  rw [Nat.zero_add, List.getElem?_toArray]
  exact icells_at l i hi
end Go.Proofs.YtnamlgacjhnpnaaGreat
