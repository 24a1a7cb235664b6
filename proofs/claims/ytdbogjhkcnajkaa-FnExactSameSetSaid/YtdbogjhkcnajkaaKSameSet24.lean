/-
  Numbers sorted, each once, also of none: in the program, as a contract.
-/
import Derived.Test.YtdbogjhkcnajkaaKSameSet22
import Derived.Test.YtdbogjhkcnajkaaKSameSet23
namespace Go.Proofs.Ytdbogjhkcnajkaa
open Go.RowKit Go.Sort
set_option linter.unusedVariables false

theorem hz_own {w : World} {base size n len d : Nat} {e : TypeId} {B : Option Addr} {xs : List Value} (h : w.ownsRow base e size (.slice B n d) len xs) : B = none → d = 0 := by
  rintro rfl
  rcases h.2 with ⟨e1, _⟩ | ⟨g, cap, cur, e1, _⟩
  · injection e1
  · cases e1
end Go.Proofs.Ytdbogjhkcnajkaa
