/-
  An argument that is a term, opened: it reads as a tree. Numbering a term, and looking at it, with what stands there.
-/
import Derived.Test.YthjkogighppeaaaKSetOfFormula5
import Derived.Test.YthjkogighppeaaaKSetOfFormula21
import Derived.Lib.SmallJoins
import Derived.Test.YthjkogighppeaaaKSetOfFormula4
import Derived.Test.YthjkogighppeaaaKSetOfFormula3
section
namespace Go.Proofs.Ythjkogighppeaaa
open Go.RowKit Go.Deep Go.ChangeShapes Go.WideShapes

instance : Inhabited Tm := ⟨tm0⟩

variable {H : Type} {enc : TypeId × Value → H} {W : World}

end Go.Proofs.Ythjkogighppeaaa
end

section
namespace Go.Proofs.Ythjkogighppeaaa
open Go.RowKit Go.Sort
set_option linter.unusedVariables false

theorem box_lt {w : World} {g : Nat} {o : Obj} (h : w.heap[g]? = some o) : g < w.heap.size := (Array.getElem?_eq_some_iff.1 h).1

theorem row4 {w : World} {g : Nat} {a b c d : Value} {T : TypeId} (h : w.heap[g]? = some (.cells #[a, b, c, d] T)) :
    w.cell? ⟨g, 0, none⟩ = some a ∧ w.cell? ⟨g, 1, none⟩ = some b ∧ w.cell? ⟨g, 2, none⟩ = some c ∧ w.cell? ⟨g, 3, none⟩ = some d := by
  refine ⟨?_, ?_, ?_, ?_⟩ <;> rw [cell_of_row w g _ _ _ _ h] <;> rfl

end Go.Proofs.Ythjkogighppeaaa
end

