/-
  All patterns, what is among them, and valid orbit sets: in the model, as contracts. Orbit sets in the model: whether they are valid, as contracts.
-/
import Derived.Test.YtnnebndcjjdhoaaKPathsOf17
import Derived.Test.YtnnebndcjjdhoaaKPathsOf12
import Derived.Test.YtnnebndcjjdhoaaKPathsOf2
section
namespace Go.Proofs.Ytnnebndcjjdhoaa
open Go.RowKit Go.Sort
set_option linter.unusedVariables false

theorem own_lit0 (w : World) : Own (w.alloc (.cells #[] 46)) [w.heap.size] (.slice (some ⟨w.heap.size, 0, none⟩) 0 0) (rowsMem []) :=
  .row rfl (World.ownsRow_lit w #[] 0 (Nat.zero_le _) (by decide) rfl) .nil (by simp)

end Go.Proofs.Ytnnebndcjjdhoaa
end

section
namespace Go.Proofs.Ytnnebndcjjdhoaa
open Go.RowKit Go.Sort
set_option linter.unusedVariables false

end Go.Proofs.Ytnnebndcjjdhoaa
end

