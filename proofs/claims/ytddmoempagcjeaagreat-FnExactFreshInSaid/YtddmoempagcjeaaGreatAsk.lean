/-
  Of which kind a form is: what a type switch finds, as closed facts. Three blocks that a call lays first: what lies in them.
-/
import Derived.Test.YtddmoempagcjeaaGreatForm
namespace Go.Proofs.YtddmoempagcjeaaGreat
open Go.RowKit
set_option linter.unusedVariables false

theorem ask_atom_atom (v : Value) (w : World) : (Instr.typeAssert (.iface 100 v) 68 100 true).run Tryz.prog w = .ok (.tuple #[v, .bool true]) w := by kernel_rfl
theorem ask_atom_node (v : Value) (w : World) : (Instr.typeAssert (.iface 100 v) 68 103 true).run Tryz.prog w = .ok (.tuple #[.agg #[.int .i64 0, .slice none 0 0], .bool false]) w := by kernel_rfl
theorem ask_atom_bind (v : Value) (w : World) : (Instr.typeAssert (.iface 100 v) 68 105 true).run Tryz.prog w = .ok (.tuple #[.agg #[.int .i64 0, .nilIface], .bool false]) w := by kernel_rfl
theorem ask_atom_hole (v : Value) (w : World) : (Instr.typeAssert (.iface 100 v) 68 75 true).run Tryz.prog w = .ok (.tuple #[.agg #[.int .i64 0, .slice none 0 0], .bool false]) w := by kernel_rfl
theorem ask_node_atom (v : Value) (w : World) : (Instr.typeAssert (.iface 103 v) 68 100 true).run Tryz.prog w = .ok (.tuple #[.agg #[.int .i64 0], .bool false]) w := by kernel_rfl
theorem ask_node_node (v : Value) (w : World) : (Instr.typeAssert (.iface 103 v) 68 103 true).run Tryz.prog w = .ok (.tuple #[v, .bool true]) w := by kernel_rfl
theorem ask_node_bind (v : Value) (w : World) : (Instr.typeAssert (.iface 103 v) 68 105 true).run Tryz.prog w = .ok (.tuple #[.agg #[.int .i64 0, .nilIface], .bool false]) w := by kernel_rfl
theorem ask_node_hole (v : Value) (w : World) : (Instr.typeAssert (.iface 103 v) 68 75 true).run Tryz.prog w = .ok (.tuple #[.agg #[.int .i64 0, .slice none 0 0], .bool false]) w := by kernel_rfl
theorem ask_bind_atom (v : Value) (w : World) : (Instr.typeAssert (.iface 105 v) 68 100 true).run Tryz.prog w = .ok (.tuple #[.agg #[.int .i64 0], .bool false]) w := by kernel_rfl
theorem ask_bind_node (v : Value) (w : World) : (Instr.typeAssert (.iface 105 v) 68 103 true).run Tryz.prog w = .ok (.tuple #[.agg #[.int .i64 0, .slice none 0 0], .bool false]) w := by kernel_rfl
theorem ask_bind_bind (v : Value) (w : World) : (Instr.typeAssert (.iface 105 v) 68 105 true).run Tryz.prog w = .ok (.tuple #[v, .bool true]) w := by kernel_rfl
theorem ask_bind_hole (v : Value) (w : World) : (Instr.typeAssert (.iface 105 v) 68 75 true).run Tryz.prog w = .ok (.tuple #[.agg #[.int .i64 0, .slice none 0 0], .bool false]) w := by kernel_rfl
theorem ask_hole_atom (v : Value) (w : World) : (Instr.typeAssert (.iface 75 v) 68 100 true).run Tryz.prog w = .ok (.tuple #[.agg #[.int .i64 0], .bool false]) w := by kernel_rfl
theorem ask_hole_node (v : Value) (w : World) : (Instr.typeAssert (.iface 75 v) 68 103 true).run Tryz.prog w = .ok (.tuple #[.agg #[.int .i64 0, .slice none 0 0], .bool false]) w := by kernel_rfl
theorem ask_hole_bind (v : Value) (w : World) : (Instr.typeAssert (.iface 75 v) 68 105 true).run Tryz.prog w = .ok (.tuple #[.agg #[.int .i64 0, .nilIface], .bool false]) w := by kernel_rfl
theorem ask_hole_hole (v : Value) (w : World) : (Instr.typeAssert (.iface 75 v) 68 75 true).run Tryz.prog w = .ok (.tuple #[v, .bool true]) w := by kernel_rfl

theorem boxes3 (w : World) (m a u v : Value) (T1 T2 T3 : TypeId) :
    (((w.alloc (.cells #[m] T1)).alloc (.cells #[a] T2)).alloc (.cells #[u, v] T3)).cell? ⟨w.heap.size, 0, none⟩ = some m ∧ (((w.alloc (.cells #[m] T1)).alloc (.cells #[a] T2)).alloc (.cells #[u, v] T3)).cell? ⟨w.heap.size + 1, 0, none⟩ = some a ∧
    (((w.alloc (.cells #[m] T1)).alloc (.cells #[a] T2)).alloc (.cells #[u, v] T3)).cell? ⟨w.heap.size + 2, 0, none⟩ = some u ∧ (((w.alloc (.cells #[m] T1)).alloc (.cells #[a] T2)).alloc (.cells #[u, v] T3)).cell? ⟨w.heap.size + 2, 1, none⟩ = some v := by
  have h1 : (((w.alloc (.cells #[m] T1)).alloc (.cells #[a] T2)).alloc (.cells #[u, v] T3)).heap[w.heap.size]? = some (.cells #[m] T1 (0, 0)) :=
    (Below.heap_alloc _ _ _ (by simp; omega)).trans ((Below.heap_alloc _ _ _ (by simp)).trans (heap_alloc_new w _))
  have h2 : (((w.alloc (.cells #[m] T1)).alloc (.cells #[a] T2)).alloc (.cells #[u, v] T3)).heap[w.heap.size + 1]? = some (.cells #[a] T2 (0, 0)) := by
    have h := heap_alloc_new (w.alloc (.cells #[m] T1)) (.cells #[a] T2)
    rw [World.size_alloc] at h
    exact (Below.heap_alloc _ _ _ (by simp)).trans h
  have h3 : (((w.alloc (.cells #[m] T1)).alloc (.cells #[a] T2)).alloc (.cells #[u, v] T3)).heap[w.heap.size + 2]? = some (.cells #[u, v] T3 (0, 0)) := by
    have h := heap_alloc_new ((w.alloc (.cells #[m] T1)).alloc (.cells #[a] T2)) (.cells #[u, v] T3)
    rw [World.size_alloc, World.size_alloc] at h
    exact h
  refine ⟨?_, ?_, ?_, ?_⟩
  · rw [cell_of_row _ _ _ _ _ _ h1]; rfl
  · rw [cell_of_row _ _ _ _ _ _ h2]; rfl
  · rw [cell_of_row _ _ _ _ _ _ h3]; rfl
  · rw [cell_of_row _ _ _ _ _ _ h3]; rfl

end Go.Proofs.YtddmoempagcjeaaGreat
