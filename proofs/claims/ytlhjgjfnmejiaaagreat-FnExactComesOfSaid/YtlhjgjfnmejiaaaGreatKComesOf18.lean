/-
  What a region leaves that has put a term into a box.
-/
import Derived.Test.YtlhjgjfnmejiaaaGreatKComesOf17
import Derived.Test.YtlhjgjfnmejiaaaGreatKComesOf7
import Derived.Test.YtlhjgjfnmejiaaaGreatKComesOf5
import Derived.Deep.DeepCutAuto
namespace Go.Proofs.YtlhjgjfnmejiaaaGreat
open Go.RowKit
set_option linter.unusedVariables false

namespace BoxR
theorem box_lt {w : World} {g : Nat} {o : Obj} (h : w.heap[g]? = some o) : g < w.heap.size := (Array.getElem?_eq_some_iff.1 h).1
theorem row4 {w : World} {g : Nat} {a b c d : Value} {T : TypeId} (h : w.heap[g]? = some (.cells #[a, b, c, d] T (0, 0))) : w.cell? ⟨g, 0, none⟩ = some a ∧ w.cell? ⟨g, 1, none⟩ = some b ∧ w.cell? ⟨g, 2, none⟩ = some c ∧ w.cell? ⟨g, 3, none⟩ = some d := by
  refine ⟨?_, ?_, ?_, ?_⟩ <;> rw [cell_of_row w g _ _ _ _ h] <;> rfl
/-- A pointer to a box that holds a term, and the world that has grown. -/
def Rel (w0 : World) (R : Tm) (s : Value) (wx : World) : Prop :=
  ∃ g A c B d S, s = .pointer (some ⟨g, 0, none⟩) ∧ wx.heap[g]? = some (.cells #[.int .i64 R.op, .int .i64 R.num, .slice A R.perm.length c, .slice B R.kids.length d] 46) ∧ OwnL wx S [.int .i64 R.op, .int .i64 R.num, .slice A R.perm.length c, .slice B R.kids.length d] (encT R) ∧ g ∉ S ∧ (∀ b ∈ S, w0.heap.size ≤ b) ∧ w0.heap.size ≤ g ∧ Below w0.heap.size w0 wx
theorem set4_only (w : World) (R : Nat) (a b c d : Value) : Only [R] w ((((w.setCell ⟨R, 0, none⟩ a).setCell ⟨R, 1, none⟩ b).setCell ⟨R, 2, none⟩ c).setCell ⟨R, 3, none⟩ d) :=
  ((((Only.refl _ _).set ⟨R, 0, none⟩ a (by simp)).set ⟨R, 1, none⟩ b (by simp)).set ⟨R, 2, none⟩ c (by simp)).set ⟨R, 3, none⟩ d (by simp)
theorem set4_box {w : World} {R : Nat} {o0 o1 o2 o3 : Value} {T : TypeId} (h : w.heap[R]? = some (.cells #[o0, o1, o2, o3] T)) (a b c d : Value) : ((((w.setCell ⟨R, 0, none⟩ a).setCell ⟨R, 1, none⟩ b).setCell ⟨R, 2, none⟩ c).setCell ⟨R, 3, none⟩ d).heap[R]? = some (.cells #[a, b, c, d] T) := by
  have h1 := heap_setCell_same w R 0 _ _ a h
  have h2 := heap_setCell_same _ R 1 _ _ b h1
  have h3 := heap_setCell_same _ R 2 _ _ c h2
  have h4 := heap_setCell_same _ R 3 _ _ d h3
  exact h4
theorem rel_set {w0 w4 : World} {g : Nat} {R : Tm} {A B : Option Addr} {c d : Nat} {S : List Nat} (hz : w4.heap[g]? = some (.cells #[.int .i64 0, .int .i64 0, .slice none 0 0, .slice none 0 0] 46))
    (hL : OwnL w4 S [.int .i64 R.op, .int .i64 R.num, .slice A R.perm.length c, .slice B R.kids.length d] (encT R)) (hS : ∀ b ∈ S, w0.heap.size ≤ b) (hne : ∀ b ∈ S, b ≠ g) (hg : w0.heap.size ≤ g) (hb : Below w0.heap.size w0 w4) :
    Rel w0 R (.pointer (some ⟨g, 0, none⟩)) ((((w4.setCell ⟨g, 0, none⟩ (.int .i64 R.op)).setCell ⟨g, 1, none⟩ (.int .i64 R.num)).setCell ⟨g, 2, none⟩ (.slice A R.perm.length c)).setCell ⟨g, 3, none⟩ (.slice B R.kids.length d)) :=
  ⟨g, A, c, B, d, S, rfl, set4_box hz _ _ _ _, set4_own hL hne _ _ _ _, fun hm => hne g hm rfl, hS, hg, set4_below hb hg _ _ _ _⟩
theorem rel_new {w0 w4 : World} {R : Tm} {A B : Option Addr} {c d : Nat} {S : List Nat} (hL : OwnL w4 S [.int .i64 R.op, .int .i64 R.num, .slice A R.perm.length c, .slice B R.kids.length d] (encT R)) (hS : ∀ b ∈ S, w0.heap.size ≤ b) (hb : Below w0.heap.size w0 w4) :
    Rel w0 R (.pointer (some ⟨w4.heap.size, 0, none⟩)) (w4.alloc (.cells #[.int .i64 R.op, .int .i64 R.num, .slice A R.perm.length c, .slice B R.kids.length d] 46)) :=
  ⟨w4.heap.size, A, c, B, d, S, rfl, heap_alloc_new _ _, hL.alike fun b hb' => Below.heap_alloc _ _ _ (hL.lt b hb'), fun hm => by have := hL.lt _ hm; omega, hS, hb.size, hb.alloc hb.size _⟩
theorem set4_keep {w : World} {h g q : Nat} {v a b c d : Value} (hv : w.cell? ⟨h, q, none⟩ = some v) (hne : h ≠ g) : ((((w.setCell ⟨g, 0, none⟩ a).setCell ⟨g, 1, none⟩ b).setCell ⟨g, 2, none⟩ c).setCell ⟨g, 3, none⟩ d).cell? ⟨h, q, none⟩ = some v := by
  have h1 := (set4_only w g a b c d)
  have hlt : h < w.heap.size := by
    rcases Nat.lt_or_ge h w.heap.size with h3 | h3
    · exact h3
    · simp [World.cell?, Array.getElem?_eq_none h3] at hv
  exact (World.cell?_of_block (w := w) (a := ⟨h, q, none⟩) (h1.block h hlt (by simpa using hne))).trans hv
end BoxR

end Go.Proofs.YtlhjgjfnmejiaaaGreat
