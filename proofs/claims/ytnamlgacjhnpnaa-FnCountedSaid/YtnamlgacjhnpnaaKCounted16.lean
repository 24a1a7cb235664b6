/-
  A table that is laid and stored in a statement that draws its order. An orbit set told by more constants, in the model, as a contract.
-/
import Derived.Test.YtnamlgacjhnpnaaKCounted15
import Derived.Deep.DeepCutAuto
import Derived.Test.YtnamlgacjhnpnaaKCounted13
section
namespace Go.Proofs.Ytnamlgacjhnpnaa
open Go.RowKit Go.Sort
set_option linter.unusedVariables false

theorem TabAt.there {w : World} {g : Nat} {f : Nat → Bool} (h : TabAt w g f) {n : Nat} (hn : n = 4096) : w.there g 0 n := fun j hj => by
  rw [Nat.zero_add]
  exact ⟨by rw [h.cell (by omega)]; rfl, h.frozen j⟩
theorem TabAt.alloc {w : World} {g : Nat} {f : Nat → Bool} (h : TabAt w g f) (o : Obj) : TabAt (w.alloc o) g f := h.below ((Below.refl _ _).alloc (Nat.le_refl _) o)
theorem TabAt.drew {w : World} {g : Nat} {f : Nat → Bool} (h : TabAt w g f) : TabAt w.drew g f := h
end Go.Proofs.Ytnamlgacjhnpnaa
end

section
namespace Go.Proofs.Ytnamlgacjhnpnaa
open Go.RowKit Go.Sort
set_option linter.unusedVariables false

namespace OrbR
theorem set3_only (w : World) (R : Nat) (a b c : Value) : Only [R] w (((w.setCell ⟨R, 0, none⟩ a).setCell ⟨R, 1, none⟩ b).setCell ⟨R, 2, none⟩ c) :=
  (((Only.refl _ _).set ⟨R, 0, none⟩ a (by simp)).set ⟨R, 1, none⟩ b (by simp)).set ⟨R, 2, none⟩ c (by simp)
end OrbR

end Go.Proofs.Ytnamlgacjhnpnaa
end

