/-
  When an orbit set can be told by more constants: plain words, no program is walked here. What is in one of two orbit sets, or in both: plain words, no program is walked here. The two function literals that tell which patterns are kept, in the program, as contracts.
-/
import Derived.Test.YtnamlgacjhnpnaaGreatKReduced18
import Derived.Test.YtnamlgacjhnpnaaGreatKReduced20
import Derived.Test.YtnamlgacjhnpnaaGreatKReduced16
section
namespace Go.Proofs.YtnamlgacjhnpnaaGreat
open Go.RowKit
set_option linter.unusedVariables false

theorem ascP_of {l : List Int} (h : ascB l = true) : AscP l := List.pairwise_iff_getElem.2 fun i j hi hj hij => by
  have := asc_lt h j i hij hj
  rwa [itAt_get l i hi, itAt_get l j hj] at this
theorem const_asc {l : List Int} (h : constB l = true) : AscP l := by
  unfold constB at h
  simp only [Bool.and_eq_true] at h
  exact ascP_of h.2.2
end Go.Proofs.YtnamlgacjhnpnaaGreat
end

section
namespace Go.Proofs.YtnamlgacjhnpnaaGreat
open Go.RowKit
set_option linter.unusedVariables false

/-- The constants of both, and whether two sets can be made one. -/
def bothC (l1 l2 : List Int) : List Int := unB l1 l2
end Go.Proofs.YtnamlgacjhnpnaaGreat
end

section
namespace Go.Proofs.YtnamlgacjhnpnaaGreat
open Go.RowKit Go.Sort
set_option linter.unusedVariables false

end Go.Proofs.YtnamlgacjhnpnaaGreat
end

