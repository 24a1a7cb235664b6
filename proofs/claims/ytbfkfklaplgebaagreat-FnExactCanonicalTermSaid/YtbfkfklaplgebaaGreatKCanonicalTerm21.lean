/-
  What a region leaves that has put a term into a box.
-/
import Derived.Test.YtbfkfklaplgebaaGreatKCanonicalTerm19
import Derived.Test.YtbfkfklaplgebaaGreatKCanonicalTerm5
import Derived.Test.YtbfkfklaplgebaaGreatKCanonicalTerm4
import Derived.Deep.DeepCutAuto
namespace Go.Proofs.YtbfkfklaplgebaaGreat
open Go.RowKit
set_option linter.unusedVariables false

namespace BoxR
theorem box_lt {w : World} {g : Nat} {o : Obj} (h : w.heap[g]? = some o) : g < w.heap.size := (Array.getElem?_eq_some_iff.1 h).1
theorem row4 {w : World} {g : Nat} {a b c d : Value} {T : TypeId} (h : w.heap[g]? = some (.cells #[a, b, c, d] T (0, 0))) : w.cell? ⟨g, 0, none⟩ = some a ∧ w.cell? ⟨g, 1, none⟩ = some b ∧ w.cell? ⟨g, 2, none⟩ = some c ∧ w.cell? ⟨g, 3, none⟩ = some d := by
  refine ⟨?_, ?_, ?_, ?_⟩ <;> rw [cell_of_row w g _ _ _ _ h] <;> rfl
theorem set4_box {w : World} {R : Nat} {o0 o1 o2 o3 : Value} {T : TypeId} (h : w.heap[R]? = some (.cells #[o0, o1, o2, o3] T)) (a b c d : Value) : ((((w.setCell ⟨R, 0, none⟩ a).setCell ⟨R, 1, none⟩ b).setCell ⟨R, 2, none⟩ c).setCell ⟨R, 3, none⟩ d).heap[R]? = some (.cells #[a, b, c, d] T) := by
  have h1 := heap_setCell_same w R 0 _ _ a h
  have h2 := heap_setCell_same _ R 1 _ _ b h1
  have h3 := heap_setCell_same _ R 2 _ _ c h2
  have h4 := heap_setCell_same _ R 3 _ _ d h3
  exact h4
end BoxR

end Go.Proofs.YtbfkfklaplgebaaGreat
