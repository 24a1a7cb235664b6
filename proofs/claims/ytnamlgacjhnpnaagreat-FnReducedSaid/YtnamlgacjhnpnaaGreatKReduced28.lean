/-
  What a region leaves that has put an orbit set into a box.
-/
import Derived.Test.YtnamlgacjhnpnaaGreatKReduced11
import Derived.Deep.DeepCutAuto
namespace Go.Proofs.YtnamlgacjhnpnaaGreat
open Go.RowKit
set_option linter.unusedVariables false

namespace OrbQ
/-- A pointer to a box that holds an orbit set, and the world that has grown. -/
def Rel (w0 : World) (z : Int) (l : List Int) (m : List (List Int)) (s : Value) (wx : World) : Prop :=
  ∃ g A c B d S, s = .pointer (some ⟨g, 0, none⟩) ∧ wx.heap[g]? = some (.cells #[.int .i64 z, .slice A l.length c, .slice B m.length d] 27 (0, 0)) ∧ OwnL wx S [.int .i64 z, .slice A l.length c, .slice B m.length d] (encO z l m) ∧ g ∉ S ∧ (∀ b ∈ S, w0.heap.size ≤ b) ∧ w0.heap.size ≤ g ∧ Below w0.heap.size w0 wx
theorem set3_only (w : World) (R : Nat) (a b c : Value) : Only [R] w (((w.setCell ⟨R, 0, none⟩ a).setCell ⟨R, 1, none⟩ b).setCell ⟨R, 2, none⟩ c) :=
  (((Only.refl _ _).set ⟨R, 0, none⟩ a (by simp)).set ⟨R, 1, none⟩ b (by simp)).set ⟨R, 2, none⟩ c (by simp)
theorem set3_box {w : World} {R : Nat} {o0 o1 o2 : Value} {T : TypeId} (h : w.heap[R]? = some (.cells #[o0, o1, o2] T (0, 0))) (a b c : Value) : (((w.setCell ⟨R, 0, none⟩ a).setCell ⟨R, 1, none⟩ b).setCell ⟨R, 2, none⟩ c).heap[R]? = some (.cells #[a, b, c] T (0, 0)) := by
  have h1 := heap_setCell_same w R 0 _ _ a h
  have h2 := heap_setCell_same _ R 1 _ _ b h1
  exact heap_setCell_same _ R 2 _ _ c h2
theorem rel_set {w0 w4 : World} {g : Nat} {z : Int} {l : List Int} {m : List (List Int)} {A B : Option Addr} {c d : Nat} {S : List Nat} (hz : w4.heap[g]? = some (.cells #[.int .i64 0, .slice none 0 0, .slice none 0 0] 27 (0, 0)))
    (hL : OwnL w4 S [.int .i64 z, .slice A l.length c, .slice B m.length d] (encO z l m)) (hS : ∀ b ∈ S, w0.heap.size ≤ b) (hne : ∀ b ∈ S, b ≠ g) (hg : w0.heap.size ≤ g) (hb : Below w0.heap.size w0 w4) :
    Rel w0 z l m (.pointer (some ⟨g, 0, none⟩)) (((w4.setCell ⟨g, 0, none⟩ (.int .i64 z)).setCell ⟨g, 1, none⟩ (.slice A l.length c)).setCell ⟨g, 2, none⟩ (.slice B m.length d)) :=
  ⟨g, A, c, B, d, S, rfl, set3_box hz _ _ _, hL.alike fun b hbb => (set3_only w4 g _ _ _).block b (hL.lt b hbb) (by have := hne b hbb; simpa using this), fun hm => hne g hm rfl, hS, hg, ((hb.setCell (p := ⟨g, 0, none⟩) hg _).setCell (p := ⟨g, 1, none⟩) hg _).setCell (p := ⟨g, 2, none⟩) hg _⟩
theorem rel_new {w0 w4 : World} {z : Int} {l : List Int} {m : List (List Int)} {A B : Option Addr} {c d : Nat} {S : List Nat} (hL : OwnL w4 S [.int .i64 z, .slice A l.length c, .slice B m.length d] (encO z l m)) (hS : ∀ b ∈ S, w0.heap.size ≤ b) (hb : Below w0.heap.size w0 w4) :
    Rel w0 z l m (.pointer (some ⟨w4.heap.size, 0, none⟩)) (w4.alloc (.cells #[.int .i64 z, .slice A l.length c, .slice B m.length d] 27)) :=
  ⟨w4.heap.size, A, c, B, d, S, rfl, heap_alloc_new _ _, hL.alike fun b hb' => Below.heap_alloc _ _ _ (hL.lt b hb'), fun hm => by have := hL.lt _ hm; omega, hS, hb.size, hb.alloc hb.size _⟩
theorem set3_keep {w : World} {h g q : Nat} {v a b c : Value} (hv : w.cell? ⟨h, q, none⟩ = some v) (hne : h ≠ g) : (((w.setCell ⟨g, 0, none⟩ a).setCell ⟨g, 1, none⟩ b).setCell ⟨g, 2, none⟩ c).cell? ⟨h, q, none⟩ = some v := by
  have h1 := (set3_only w g a b c)
  have hlt : h < w.heap.size := by
    rcases Nat.lt_or_ge h w.heap.size with h3 | h3
    · exact h3
    · simp [World.cell?, Array.getElem?_eq_none h3] at hv
  exact (World.cell?_of_block (w := w) (a := ⟨h, q, none⟩) (h1.block h hlt (by simpa using hne))).trans hv
end OrbQ
end Go.Proofs.YtnamlgacjhnpnaaGreat
