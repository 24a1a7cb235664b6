/-
  What a region leaves that has put a term into a box.
-/
import Derived.Test.YtbfkfklaplgebaaGreatKHoldsFor17
import Derived.Test.YtbfkfklaplgebaaGreatKHoldsFor7
import Derived.Test.YtbfkfklaplgebaaGreatKHoldsFor5
import Derived.Deep.DeepCutAuto
namespace Go.Proofs.YtbfkfklaplgebaaGreat
open Go.RowKit
set_option linter.unusedVariables false

namespace BoxR
theorem box_lt {w : World} {g : Nat} {o : Obj} (h : w.heap[g]? = some o) : g < w.heap.size := (Array.getElem?_eq_some_iff.1 h).1
theorem row4 {w : World} {g : Nat} {a b c d : Value} {T : TypeId} (h : w.heap[g]? = some (.cells #[a, b, c, d] T (0, 0))) : w.cell? ⟨g, 0, none⟩ = some a ∧ w.cell? ⟨g, 1, none⟩ = some b ∧ w.cell? ⟨g, 2, none⟩ = some c ∧ w.cell? ⟨g, 3, none⟩ = some d := by
  refine ⟨?_, ?_, ?_, ?_⟩ <;> rw [cell_of_row w g _ _ _ _ h] <;> rfl
theorem set4_only (w : World) (R : Nat) (a b c d : Value) : Only [R] w ((((w.setCell ⟨R, 0, none⟩ a).setCell ⟨R, 1, none⟩ b).setCell ⟨R, 2, none⟩ c).setCell ⟨R, 3, none⟩ d) :=
  ((((Only.refl _ _).set ⟨R, 0, none⟩ a (by simp)).set ⟨R, 1, none⟩ b (by simp)).set ⟨R, 2, none⟩ c (by simp)).set ⟨R, 3, none⟩ d (by simp)
theorem set4_keep {w : World} {h g q : Nat} {v a b c d : Value} (hv : w.cell? ⟨h, q, none⟩ = some v) (hne : h ≠ g) : ((((w.setCell ⟨g, 0, none⟩ a).setCell ⟨g, 1, none⟩ b).setCell ⟨g, 2, none⟩ c).setCell ⟨g, 3, none⟩ d).cell? ⟨h, q, none⟩ = some v := by
  have h1 := (set4_only w g a b c d)
  have hlt : h < w.heap.size := by
    rcases Nat.lt_or_ge h w.heap.size with h3 | h3
    · exact h3
    · simp [World.cell?, Array.getElem?_eq_none h3] at hv
  exact (World.cell?_of_block (w := w) (a := ⟨h, q, none⟩) (h1.block h hlt (by simpa using hne))).trans hv
end BoxR

end Go.Proofs.YtbfkfklaplgebaaGreat
