/-
  A binder with another atom in the place of its own, in the program, as a contract.
-/
import Derived.Test.YtenejdfnhkbafaaKTermAt15
import Derived.Test.YtenejdfnhkbafaaKTermAt20
namespace Go.Proofs.Ytenejdfnhkbafaa
open Go.RowKit Go.Sort
set_option linter.unusedVariables false

theorem set2_block {w : World} {g : Nat} {u v a b : Value} {T : TypeId} (h : w.heap[g]? = some (.cells #[u, v] T (0, 0))) : ((w.setCell ⟨g, 0, none⟩ a).setCell ⟨g, 1, none⟩ b).heap[g]? = some (.cells #[a, b] T (0, 0)) := by
  obtain ⟨hlt, hk⟩ := Array.getElem?_eq_some_iff.1 h
  have h1 : (w.setCell ⟨g, 0, none⟩ a).heap[g]? = some (.cells #[a, v] T (0, 0)) := by
    show (w.heap.modify g _)[g]? = _
    rw [Array.getElem?_eq_getElem (by rw [Array.size_modify]; exact hlt), Array.getElem_modify_self, hk]
    rfl
  obtain ⟨hlt1, hk1⟩ := Array.getElem?_eq_some_iff.1 h1
  show ((w.setCell ⟨g, 0, none⟩ a).heap.modify g _)[g]? = _
  rw [Array.getElem?_eq_getElem (by rw [Array.size_modify]; exact hlt1), Array.getElem_modify_self, hk1]
  rfl

theorem set2_other {w : World} {g h : Nat} {a b : Value} (hne : h ≠ g) : ((w.setCell ⟨g, 0, none⟩ a).setCell ⟨g, 1, none⟩ b).heap[h]? = w.heap[h]? :=
  (Below.heap_setCell (w.setCell ⟨g, 0, none⟩ a) ⟨g, 1, none⟩ b h hne).trans (Below.heap_setCell w ⟨g, 0, none⟩ a h hne)

theorem set2_keep {w : World} {h g q : Nat} {v a b : Value} (hv : w.cell? ⟨h, q, none⟩ = some v) (hne : h ≠ g) : ((w.setCell ⟨g, 0, none⟩ a).setCell ⟨g, 1, none⟩ b).cell? ⟨h, q, none⟩ = some v :=
  (World.cell?_of_block (w := w) (a := ⟨h, q, none⟩) (set2_other hne)).trans hv

theorem row2 {w : World} {g : Nat} {a b : Value} {T : TypeId} (h : w.heap[g]? = some (.cells #[a, b] T (0, 0))) : w.cell? ⟨g, 0, none⟩ = some a ∧ w.cell? ⟨g, 1, none⟩ = some b ∧ w.frozen? ⟨g, 0, none⟩ = false ∧ w.frozen? ⟨g, 1, none⟩ = false :=
  ⟨by rw [cell_of_row _ _ _ _ _ _ h]; rfl, by rw [cell_of_row _ _ _ _ _ _ h]; rfl, frozen_of_row _ _ 0 _ _ h, frozen_of_row _ _ 1 _ _ h⟩

theorem swapL_len (a b : Int) : (swapL a b).length ≤ 2 := by
  unfold swapL
  split
  · simp
  · split <;> simp
theorem swapL_asc (a b : Int) : Asc (swapL a b) := by
  unfold swapL
  split
  · exact asc_nil
  · split
    · exact asc_list (by unfold AscP froms; simp; omega)
    · exact asc_list (by unfold AscP froms; simp; omega)

end Go.Proofs.Ytenejdfnhkbafaa
