/-
  A table that is laid and stored in a statement that draws its order.
-/
import Derived.Test.YtdbogjhkcnajkaaKActOnSet17
import Derived.Deep.DeepCutAuto
namespace Go.Proofs.Ytdbogjhkcnajkaa
open Go.RowKit Go.Sort
set_option linter.unusedVariables false

theorem grow_drew {B : Nat} {a w : World} (h : Below B a w) : Below B a w.drew := ⟨h.os, h.tape, h.output, h.size, h.block⟩
theorem TabAt.there {w : World} {g : Nat} {f : Nat → Bool} (h : TabAt w g f) {n : Nat} (hn : n = 4096) : w.there g 0 n := fun j hj => by
  rw [Nat.zero_add]
  exact ⟨by rw [h.cell (by omega)]; rfl, h.frozen j⟩
theorem TabAt.alloc {w : World} {g : Nat} {f : Nat → Bool} (h : TabAt w g f) (o : Obj) : TabAt (w.alloc o) g f := h.below ((Below.refl _ _).alloc (Nat.le_refl _) o)
theorem TabAt.drew {w : World} {g : Nat} {f : Nat → Bool} (h : TabAt w g f) : TabAt w.drew g f := h
end Go.Proofs.Ytdbogjhkcnajkaa
