/-
  What a region leaves that has put a term into a box.
-/
import Derived.Test.YtbfkfklaplgebaaGreatKContextUnder21
import Derived.Test.YtbfkfklaplgebaaGreatKContextUnder7
import Derived.Test.YtbfkfklaplgebaaGreatKContextUnder5
import Derived.Deep.DeepCutAuto
namespace Go.Proofs.YtbfkfklaplgebaaGreat
open Go.RowKit
set_option linter.unusedVariables false

namespace BoxR
theorem box_lt {w : World} {g : Nat} {o : Obj} (h : w.heap[g]? = some o) : g < w.heap.size := (Array.getElem?_eq_some_iff.1 h).1
theorem row4 {w : World} {g : Nat} {a b c d : Value} {T : TypeId} (h : w.heap[g]? = some (.cells #[a, b, c, d] T (0, 0))) : w.cell? ⟨g, 0, none⟩ = some a ∧ w.cell? ⟨g, 1, none⟩ = some b ∧ w.cell? ⟨g, 2, none⟩ = some c ∧ w.cell? ⟨g, 3, none⟩ = some d := by
  refine ⟨?_, ?_, ?_, ?_⟩ <;> rw [cell_of_row w g _ _ _ _ h] <;> rfl
end BoxR

end Go.Proofs.YtbfkfklaplgebaaGreat
