/-
  Tables of codes in the program: codesOf and what a table's value is, as contracts.
-/
import Derived.Test.YtdbogjhkcnajkaaKActOnSet7
import Derived.Test.YtdbogjhkcnajkaaKActOnSet13
import Derived.Laws.Rows
import Derived.Laws.Tables
namespace Go.Proofs.Ytdbogjhkcnajkaa
open Go.RowKit Go.Sort
set_option linter.unusedVariables false

/-- The cells of a table. -/
def tabV (f : Nat → Bool) : Array Value := ((List.range 4096).map fun i => .bool (f i)).toArray
theorem tabV_size (f : Nat → Bool) : (tabV f).size = 4096 := by simp [tabV]
theorem tabV_at (f : Nat → Bool) {i : Nat} (h : i < 4096) : (tabV f)[i]? = some (.bool (f i)) := by simp [tabV, h]
theorem tabV_set (f : Nat → Bool) {m : Nat} (h : m < 4096) (b : Bool) : (tabV f).setIfInBounds m (.bool b) = tabV (fun i => if i = m then b else f i) := by
  apply Array.ext_getElem?
  intro i
  by_cases hi : i < 4096
  · rw [tabV_at _ hi, Array.getElem?_setIfInBounds]
    by_cases e : m = i
    · subst e
      simp [tabV_size, h]
    · rw [if_neg e, tabV_at _ hi, if_neg (fun h => e h.symm)]
  · rw [Array.getElem?_eq_none (by rw [Array.size_setIfInBounds, tabV_size]; omega), Array.getElem?_eq_none (by rw [tabV_size]; omega)]
theorem tabV_ext {f g : Nat → Bool} (h : ∀ i, i < 4096 → f i = g i) : tabV f = tabV g := by
  apply Array.ext_getElem?
  intro i
  by_cases hi : i < 4096
  · rw [tabV_at _ hi, tabV_at _ hi, h i hi]
  · rw [Array.getElem?_eq_none (by rw [tabV_size]; omega), Array.getElem?_eq_none (by rw [tabV_size]; omega)]
theorem tab_info : (Try.prog.info? 72).map (·.size) = some 4096 := by kernel_rfl
theorem map_range_const (n : Nat) (v : Value) : (List.range n).map (fun _ => v) = List.replicate n v := by
  apply List.ext_getElem?
  intro i
  by_cases hi : i < n
  · simp [hi]
  · rw [List.getElem?_eq_none (by simp; omega), List.getElem?_eq_none (by simp; omega)]
theorem tab_zero : Try.zeroCells72 = tabV (fun _ => false) := by
  have h : Try.zeroCells72 = (List.replicate 4096 (Value.bool false)).toArray := by kernel_rfl
  rw [h]
  unfold tabV
  rw [map_range_const]

/-- A block that is a table. -/
def TabAt (w : World) (G : Nat) (f : Nat → Bool) : Prop := w.heap[G]? = some (.cells (tabV f) 72 (0, 0))
theorem TabAt.lt {w : World} {G : Nat} {f : Nat → Bool} (h : TabAt w G f) : G < w.heap.size := (Array.getElem?_eq_some_iff.1 h).1
theorem TabAt.cell {w : World} {G : Nat} {f : Nat → Bool} (h : TabAt w G f) {i : Nat} (hi : i < 4096) : w.cell? ⟨G, i, none⟩ = some (.bool (f i)) := by rw [cell_of_row w G i _ _ _ h, tabV_at f hi]
theorem TabAt.frozen {w : World} {G : Nat} {f : Nat → Bool} (h : TabAt w G f) (i : Nat) : w.frozen? ⟨G, i, none⟩ = false := frozen_of_row w G i _ _ h
theorem TabAt.set_ {w : World} {G : Nat} {f : Nat → Bool} (h : TabAt w G f) {m : Nat} (hm : m < 4096) (b : Bool) : TabAt (w.setCell ⟨G, m, none⟩ (.bool b)) G (fun i => if i = m then b else f i) := by
  unfold TabAt at h ⊢
  have e := heap_setCell_same w G m _ _ (.bool b) h
  rw [tabV_set f hm] at e
  exact e
theorem TabAt.below {w w' : World} {G : Nat} {f : Nat → Bool} (h : TabAt w G f) (hb : Below w.heap.size w w') : TabAt w' G f := (hb.block G h.lt).trans h
theorem TabAt.ext {w : World} {G : Nat} {f g : Nat → Bool} (h : TabAt w G f) (e : ∀ i, i < 4096 → f i = g i) : TabAt w G g := by unfold TabAt at *; rw [h, tabV_ext e]
theorem TabAt.only {w w' : World} {G : Nat} {f : Nat → Bool} {S : List Nat} (h : TabAt w G f) (hon : Only S w w') (hn : G ∉ S) : TabAt w' G f := (hon.block G h.lt hn).trans h
theorem tabOf_take {m : List (List Int)} {k : Nat} (h : k < m.length) (i : Nat) : (if i = codeP (rwAt m k) then true else tabOf (m.take k) i) = tabOf (m.take (k + 1)) i := by
  rw [tabOf_next h]
  by_cases e : i = codeP (rwAt m k)
  · subst e; simp
  · rw [if_neg e]
    have : ¬ codeP (rwAt m k) = i := fun h => e h.symm
    simp [this]

end Go.Proofs.Ytdbogjhkcnajkaa
