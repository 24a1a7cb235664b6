/-
  Swapping two atoms: the program's function and the model's, as contracts.
-/
import Derived.Test.YtnomidnjglbedaaKTermAt2
import Derived.WalkLawsBesides
import Derived.WalkSpells
import Derived.BigQuiet
namespace Go.Proofs.Ytnomidnjglbedaa
open Go.RowKit

/-- The pairs of a swap. -/
def swapL (a b : Int) : List (Int × Int) := if a = b ∨ a < 0 ∨ 999 < a ∨ b < 0 ∨ 999 < b then [] else if a < b then [(a, b), (b, a)] else [(b, a), (a, b)]

end Go.Proofs.Ytnomidnjglbedaa
