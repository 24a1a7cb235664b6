/-
  Rows of numbers put one behind the other, in the program: slices.Concat and slices.Grow at ints, as contracts.
-/
import Derived.Test.YtnamlgacjhnpnaaGreatKReduced13
import Derived.Test.YtnamlgacjhnpnaaGreatKReduced3
import Derived.Lib.AppendZerosOnto
namespace Go.Proofs.YtnamlgacjhnpnaaGreat
open Go.RowKit Go.Sort
set_option linter.unusedVariables false

/-- Slices of numbers that lie one behind the other. -/
def CatAt (w : World) (A : Option Addr) (ls : List (List Int)) : Prop :=
  0 < ls.length → ∃ b off, A = some ⟨b, off, none⟩ ∧ b < w.heap.size ∧ ∀ i, i < ls.length → ∃ A1 c1, w.cell? ⟨b, off + i, none⟩ = some (.slice A1 (rwAt ls i).length c1) ∧ IntsAt w A1 (rwAt ls i) ∧ (A1 = none → c1 = 0)
theorem CatAt.below {w w' : World} {A : Option Addr} {ls : List (List Int)} (h : CatAt w A ls) (hb : Below w.heap.size w w') : CatAt w' A ls := by
  intro hp
  obtain ⟨b, off, rfl, hlt, hc⟩ := h hp
  refine ⟨b, off, rfl, Nat.lt_of_lt_of_le hlt hb.size, fun i hi => ?_⟩
  obtain ⟨A1, c1, h1, h2, h3⟩ := hc i hi
  exact ⟨A1, c1, by rw [hb.cell (p := ⟨b, off + i, none⟩) hlt]; exact h1, h2.below hb, h3⟩
end Go.Proofs.YtnamlgacjhnpnaaGreat
