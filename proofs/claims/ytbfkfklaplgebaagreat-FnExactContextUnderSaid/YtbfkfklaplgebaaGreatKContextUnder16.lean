/-
  Swapping two atoms: the program's function and the model's, as contracts.
-/
import Derived.Test.YtbfkfklaplgebaaGreatKContextUnder4
import Derived.WalkLawsBesides
import Derived.WalkSpells
import Derived.BigQuiet
namespace Go.Proofs.YtbfkfklaplgebaaGreat
open Go.RowKit

/-- The pairs of a swap. -/
def swapL (a b : Int) : List (Int × Int) := if a = b ∨ a < 0 ∨ 999 < a ∨ b < 0 ∨ 999 < b then [] else if a < b then [(a, b), (b, a)] else [(b, a), (a, b)]

theorem swapL_none {a b : Int} (h : a = b ∨ a < 0 ∨ 999 < a ∨ b < 0 ∨ 999 < b) : swapL a b = [] := by rw [swapL, if_pos h]
theorem swapL_up {a b : Int} (h1 : 0 ≤ a) (h2 : b ≤ 999) (h3 : a < b) : swapL a b = [(a, b), (b, a)] := by
  rw [swapL, if_neg (by omega), if_pos h3]
theorem swapL_down {a b : Int} (h1 : 0 ≤ b) (h2 : a ≤ 999) (h3 : b < a) : swapL a b = [(b, a), (a, b)] := by
  rw [swapL, if_neg (by omega), if_neg (by omega)]

end Go.Proofs.YtbfkfklaplgebaaGreat
