/-
  What a region leaves that has put an orbit set into a box.
-/
import Derived.Test.YtnamlgacjhnpnaaKCounted8
import Derived.Deep.DeepCutAuto
namespace Go.Proofs.Ytnamlgacjhnpnaa
open Go.RowKit
set_option linter.unusedVariables false

namespace OrbQ
theorem set3_only (w : World) (R : Nat) (a b c : Value) : Only [R] w (((w.setCell ⟨R, 0, none⟩ a).setCell ⟨R, 1, none⟩ b).setCell ⟨R, 2, none⟩ c) :=
  (((Only.refl _ _).set ⟨R, 0, none⟩ a (by simp)).set ⟨R, 1, none⟩ b (by simp)).set ⟨R, 2, none⟩ c (by simp)
end OrbQ
end Go.Proofs.Ytnamlgacjhnpnaa
