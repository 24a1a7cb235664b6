/-
  A row of numbers is put behind rows of the call's own: as a law for the walk; all patterns, in plain words. Rows of the call's own that are handed on one after the other: plain words, no program is walked here.
-/
import Derived.Test.YtnamlgacjhnpnaaKPatterns11
import Derived.Test.YtnamlgacjhnpnaaKPatterns12
import Derived.Deep.AppendLies
section
namespace Go.Proofs.Ytnamlgacjhnpnaa
open Go.RowKit Go.Sort
set_option linter.unusedVariables false

theorem own_intSlice {w : World} {R : List Nat} {u : Value} {l : List Int} (h : Own w R u (intMem l)) : ∃ A c, u = .slice A l.length c ∧ ConstAtR w A c l := by
  obtain ⟨A, c, rfl, hA⟩ := at_intRow h.at_
  exact ⟨A, c, rfl, hA, fun e => by subst e; exact own_nilcap h⟩

end Go.Proofs.Ytnamlgacjhnpnaa
end

section
namespace Go.Proofs.Ytnamlgacjhnpnaa
open Go.RowKit
set_option linter.unusedVariables false

/-- Rows of which the first i have been handed on: the cells that name them, and what each later one owns. -/
structure Left (w : World) (P : List (List Int)) (g off : Nat) (u : Nat → Value) (T : Nat → List Nat) (i : Nat) : Prop where
  lt : g < w.heap.size
  cell : ∀ j, j < P.length → w.cell? ⟨g, off + j, none⟩ = some (u j)
  own : ∀ j, i ≤ j → j < P.length → Own w (T j) (u j) (intMem (rwAt P j))
  dis : ∀ j q, j ≠ q → ∀ b ∈ T j, b ∉ T q
  hd : ∀ j, g ∉ T j

theorem Left.next {w : World} {P : List (List Int)} {g off : Nat} {u : Nat → Value} {T : Nat → List Nat} {i : Nat} (h : Left w P g off u T i) : Left w P g off u T (i + 1) :=
  ⟨h.lt, h.cell, fun j hi hj => h.own j (by omega) hj, h.dis, h.hd⟩
theorem Left.only {w w' : World} {P : List (List Int)} {g off : Nat} {u : Nat → Value} {T : Nat → List Nat} {i : Nat} {U : List Nat} (h : Left w P g off u T i) (hon : Only U w w') (hg : g ∉ U) (hT : ∀ j, i ≤ j → j < P.length → ∀ b ∈ T j, b ∉ U) : Left w' P g off u T i :=
  ⟨Nat.lt_of_lt_of_le h.lt hon.size, fun j hj => by
    have hb := hon.block g h.lt hg
    have := h.cell j hj
    unfold World.cell? at this ⊢
    simp only at this ⊢
    rw [hb]; exact this,
   fun j hi hj => (h.own j hi hj).alike fun b hb => hon.block b ((h.own j hi hj).lt b hb) (hT j hi hj b hb), h.dis, h.hd⟩
theorem Left.below {w w' : World} {P : List (List Int)} {g off : Nat} {u : Nat → Value} {T : Nat → List Nat} {i : Nat} (h : Left w P g off u T i) (hb : Below w.heap.size w w') : Left w' P g off u T i :=
  ⟨Nat.lt_of_lt_of_le h.lt hb.size, fun j hj => (hb.cell (p := ⟨g, off + j, none⟩) h.lt).trans (h.cell j hj), fun j hi hj => (h.own j hi hj).keep hb, h.dis, h.hd⟩
/-- The next row. -/
theorem Left.row {w : World} {P : List (List Int)} {g off : Nat} {u : Nat → Value} {T : Nat → List Nat} {i : Nat} (h : Left w P g off u T i) (hi : i < P.length) :
    ∃ A c, u i = .slice A (rwAt P i).length c ∧ ConstAtR w A c (rwAt P i) ∧ w.cell? ⟨g, off + i, none⟩ = some (.slice A (rwAt P i).length c) ∧ Own w (T i) (.slice A (rwAt P i).length c) (intMem (rwAt P i)) := by
  have ho := h.own i (Nat.le_refl _) hi
  obtain ⟨A, c, e, hA⟩ := own_intSlice ho
  exact ⟨A, c, e, hA, by rw [h.cell i hi, e], by rw [← e]; exact ho⟩
end Go.Proofs.Ytnamlgacjhnpnaa
end

