/-
  A table that is laid and stored in a statement that draws its order. An orbit set told by more constants, in the model, as a contract.
-/
import Derived.Test.YtnamlgacjhnpnaaGreatKSetActed18
import Derived.Deep.DeepCutAuto
import Derived.Test.YtnamlgacjhnpnaaGreatKSetActed16
section
namespace Go.Proofs.YtnamlgacjhnpnaaGreat
open Go.RowKit Go.Sort
set_option linter.unusedVariables false

theorem grow_drew {B : Nat} {a w : World} (h : Below B a w) : Below B a w.drew := ⟨h.os, h.tape, h.output, h.size, h.block⟩
theorem grow_alloc {a w : World} (h : Below a.heap.size a w) (o : Obj) : Below a.heap.size a (w.alloc o) := h.alloc h.size o
theorem grow_set {a w : World} (h : Below a.heap.size a w) {g o : Nat} (hg : a.heap.size ≤ g) (v : Value) : Below a.heap.size a (w.setCell ⟨g, o, none⟩ v) := h.setCell (p := ⟨g, o, none⟩) hg v
theorem TabAt.there {w : World} {g : Nat} {f : Nat → Bool} (h : TabAt w g f) {n : Nat} (hn : n = 4096) : w.there g 0 n := fun j hj => by
  rw [Nat.zero_add]
  exact ⟨by rw [h.cell (by omega)]; rfl, h.frozen j⟩
theorem TabAt.alloc {w : World} {g : Nat} {f : Nat → Bool} (h : TabAt w g f) (o : Obj) : TabAt (w.alloc o) g f := h.below ((Below.refl _ _).alloc (Nat.le_refl _) o)
theorem TabAt.drew {w : World} {g : Nat} {f : Nat → Bool} (h : TabAt w g f) : TabAt w.drew g f := h
end Go.Proofs.YtnamlgacjhnpnaaGreat
end

section
namespace Go.Proofs.YtnamlgacjhnpnaaGreat
open Go.RowKit Go.Sort
set_option linter.unusedVariables false

namespace OrbR
/-- A pointer to a box that holds an orbit set without patterns, and the world that has grown. -/
def Rel (w0 : World) (z : Int) (cs : List Int) (s : Value) (wx : World) : Prop :=
  ∃ g A c S, s = .pointer (some ⟨g, 0, none⟩) ∧ wx.heap[g]? = some (.cells #[.int .i64 z, .slice A cs.length c, .slice none 0 0] 27 (0, 0)) ∧ Own wx S (.slice A cs.length c) (intMem cs) ∧ g ∉ S ∧ (∀ b ∈ S, w0.heap.size ≤ b) ∧ w0.heap.size ≤ g ∧ Below w0.heap.size w0 wx
theorem set3_only (w : World) (R : Nat) (a b c : Value) : Only [R] w (((w.setCell ⟨R, 0, none⟩ a).setCell ⟨R, 1, none⟩ b).setCell ⟨R, 2, none⟩ c) :=
  (((Only.refl _ _).set ⟨R, 0, none⟩ a (by simp)).set ⟨R, 1, none⟩ b (by simp)).set ⟨R, 2, none⟩ c (by simp)
theorem set3_box {w : World} {R : Nat} {o0 o1 o2 : Value} {T : TypeId} (h : w.heap[R]? = some (.cells #[o0, o1, o2] T (0, 0))) (a b c : Value) : (((w.setCell ⟨R, 0, none⟩ a).setCell ⟨R, 1, none⟩ b).setCell ⟨R, 2, none⟩ c).heap[R]? = some (.cells #[a, b, c] T (0, 0)) := by
  have h1 := heap_setCell_same w R 0 _ _ a h
  have h2 := heap_setCell_same _ R 1 _ _ b h1
  exact heap_setCell_same _ R 2 _ _ c h2
theorem rel_set {w0 w4 : World} {g : Nat} {z : Int} {cs : List Int} {A : Option Addr} {c : Nat} {S : List Nat} (hz : w4.heap[g]? = some (.cells #[.int .i64 0, .slice none 0 0, .slice none 0 0] 27 (0, 0)))
    (hL : Own w4 S (.slice A cs.length c) (intMem cs)) (hS : ∀ b ∈ S, w0.heap.size ≤ b) (hne : ∀ b ∈ S, b ≠ g) (hg : w0.heap.size ≤ g) (hb : Below w0.heap.size w0 w4) :
    Rel w0 z cs (.pointer (some ⟨g, 0, none⟩)) (((w4.setCell ⟨g, 0, none⟩ (.int .i64 z)).setCell ⟨g, 1, none⟩ (.slice A cs.length c)).setCell ⟨g, 2, none⟩ (.slice none 0 0)) :=
  ⟨g, A, c, S, rfl, set3_box hz _ _ _, hL.alike fun b hbb => (set3_only w4 g _ _ _).block b (hL.lt b hbb) (by have := hne b hbb; simpa using this), fun hm => hne g hm rfl, hS, hg, ((hb.setCell (p := ⟨g, 0, none⟩) hg _).setCell (p := ⟨g, 1, none⟩) hg _).setCell (p := ⟨g, 2, none⟩) hg _⟩
theorem rel_new {w0 w4 : World} {z : Int} {cs : List Int} {A : Option Addr} {c : Nat} {S : List Nat} (hL : Own w4 S (.slice A cs.length c) (intMem cs)) (hS : ∀ b ∈ S, w0.heap.size ≤ b) (hb : Below w0.heap.size w0 w4) :
    Rel w0 z cs (.pointer (some ⟨w4.heap.size, 0, none⟩)) (w4.alloc (.cells #[.int .i64 z, .slice A cs.length c, .slice none 0 0] 27)) :=
  ⟨w4.heap.size, A, c, S, rfl, heap_alloc_new _ _, hL.alike fun b hb' => Below.heap_alloc _ _ _ (hL.lt b hb'), fun hm => by have := hL.lt _ hm; omega, hS, hb.size, hb.alloc hb.size _⟩
theorem set3_keep {w : World} {h g q : Nat} {v a b c : Value} (hv : w.cell? ⟨h, q, none⟩ = some v) (hne : h ≠ g) : (((w.setCell ⟨g, 0, none⟩ a).setCell ⟨g, 1, none⟩ b).setCell ⟨g, 2, none⟩ c).cell? ⟨h, q, none⟩ = some v := by
  have h1 := (set3_only w g a b c)
  have hlt : h < w.heap.size := by
    rcases Nat.lt_or_ge h w.heap.size with h3 | h3
    · exact h3
    · simp [World.cell?, Array.getElem?_eq_none h3] at hv
  exact (World.cell?_of_block (w := w) (a := ⟨h, q, none⟩) (h1.block h hlt (by simpa using hne))).trans hv
end OrbR

end Go.Proofs.YtnamlgacjhnpnaaGreat
end

