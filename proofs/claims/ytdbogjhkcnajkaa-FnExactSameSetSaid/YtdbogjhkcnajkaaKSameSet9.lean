/-
  The laws' own comparison of two values that read as the same term, as contracts. Formulas: their sizes, copies and comparison in the laws, as contracts.
-/
import Derived.Test.YtdbogjhkcnajkaaKSameSet3
import Derived.Test.YtdbogjhkcnajkaaKSameSet4
import Derived.Deep.RegionHeld3
import Derived.Deep.DrawnRows
import Derived.Test.YtdbogjhkcnajkaaKSameSet8
section
namespace Go.Proofs.Ytdbogjhkcnajkaa
open Go.RowKit Go.Sort

/-- Yes, and new blocks at most. -/
def YesPost (w : World) (e : Ending) (w' : World) : Prop := e = .returned (.bool true) ∧ Below w.heap.size w w'

theorem Calls.regrown_yes {f : FuncId} {args : Array Value} {w : World} {d : Nat} {os : Array Obj} (h : Calls Try.prog f args (grow (redrawn w d) os) (YesPost (grow (redrawn w d) os))) :
    Calls Try.prog f args (grow (redrawn w d) os) fun e w'' => e = .returned (.bool true) ∧ ∃ p : Regrown, w'' = grow (redrawn w p.d) p.os := Calls.regrown_of h

end Go.Proofs.Ytdbogjhkcnajkaa
end

section
namespace Go.Proofs.Ytdbogjhkcnajkaa
open Go.RowKit Go.Sort
set_option linter.unusedVariables false

end Go.Proofs.Ytdbogjhkcnajkaa
end

