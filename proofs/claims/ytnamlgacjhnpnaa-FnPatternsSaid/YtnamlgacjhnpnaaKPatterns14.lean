/-
  Tables of codes in the program: codesOf and what a table's value is, as contracts.
-/
import Derived.Test.YtnamlgacjhnpnaaKPatterns7
import Derived.Test.YtnamlgacjhnpnaaKPatterns13
import Derived.Laws.Rows
import Derived.Laws.Tables
namespace Go.Proofs.Ytnamlgacjhnpnaa
open Go.RowKit Go.Sort
set_option linter.unusedVariables false

/-- The cells of a table. -/
def tabV (f : Nat → Bool) : Array Value := ((List.range 4096).map fun i => .bool (f i)).toArray
theorem tabV_at (f : Nat → Bool) {i : Nat} (h : i < 4096) : (tabV f)[i]? = some (.bool (f i)) := by simp [tabV, h]
/-- A block that is a table. -/
def TabAt (w : World) (G : Nat) (f : Nat → Bool) : Prop := w.heap[G]? = some (.cells (tabV f) 59 (0, 0))
theorem TabAt.lt {w : World} {G : Nat} {f : Nat → Bool} (h : TabAt w G f) : G < w.heap.size := (Array.getElem?_eq_some_iff.1 h).1
theorem TabAt.cell {w : World} {G : Nat} {f : Nat → Bool} (h : TabAt w G f) {i : Nat} (hi : i < 4096) : w.cell? ⟨G, i, none⟩ = some (.bool (f i)) := by rw [cell_of_row w G i _ _ _ h, tabV_at f hi]
theorem TabAt.below {w w' : World} {G : Nat} {f : Nat → Bool} (h : TabAt w G f) (hb : Below w.heap.size w w') : TabAt w' G f := (hb.block G h.lt).trans h
theorem TabAt.only {w w' : World} {G : Nat} {f : Nat → Bool} {S : List Nat} (h : TabAt w G f) (hon : Only S w w') (hn : G ∉ S) : TabAt w' G f := (hon.block G h.lt hn).trans h
end Go.Proofs.Ytnamlgacjhnpnaa
