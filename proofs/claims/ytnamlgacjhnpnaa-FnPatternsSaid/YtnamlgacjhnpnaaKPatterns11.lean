/-
  Slices of slices of numbers: their sizes, copies, comparison and numbering, as contracts. Orbit sets: how they lie in memory, their sizes, their copies, comparison and numbering, as contracts.
-/
import Derived.Test.YtnamlgacjhnpnaaKPatterns1
import Derived.Test.YtnamlgacjhnpnaaKPatterns8
import Derived.Test.YtnamlgacjhnpnaaKPatterns9
import Derived.Test.YtnamlgacjhnpnaaKPatterns5
import Derived.Test.YtnamlgacjhnpnaaKPatterns4
import Derived.Test.YtnamlgacjhnpnaaKPatterns10
section
namespace Go.Proofs.Ytnamlgacjhnpnaa
open Go.RowKit Go.Sort
set_option linter.unusedVariables false

end Go.Proofs.Ytnamlgacjhnpnaa
end

section
namespace Go.Proofs.Ytnamlgacjhnpnaa
open Go.RowKit
set_option linter.unusedVariables false

abbrev ConstAt := ConstAtR
theorem ConstAt.below {w w' : World} {A : Option Addr} {c : Nat} {l : List Int} (h : ConstAt w A c l) (hb : Below w.heap.size w w') : ConstAt w' A c l := ⟨h.1.below hb, h.2⟩
/-- A value that is an orbit set. -/
def OrbIn (w : World) (x : Value) (z : Int) (l : List Int) (m : List (List Int)) : Prop :=
  ∃ A c B d, x = .agg #[.int .i64 z, .slice A l.length c, .slice B m.length d] ∧ ConstAt w A c l ∧ RowsIn w (.slice B m.length d) m
theorem OrbIn.below {w w' : World} {x : Value} {z : Int} {l : List Int} {m : List (List Int)} (h : OrbIn w x z l m) (hb : Below w.heap.size w w') : OrbIn w' x z l m := by
  obtain ⟨A, c, B, d, rfl, h1, h2⟩ := h
  exact ⟨A, c, B, d, rfl, h1.below hb, h2.below hb⟩
namespace OrbK
end OrbK

/-- Rows, each with room for itself. -/
def RowsC (w : World) (A : Option Addr) (ls : List (List Int)) : Prop :=
  0 < ls.length → ∃ b off, A = some ⟨b, off, none⟩ ∧ b < w.heap.size ∧ ∀ i, i < ls.length → ∃ A1 c1, w.cell? ⟨b, off + i, none⟩ = some (.slice A1 (rwAt ls i).length c1) ∧ IntsAt w A1 (rwAt ls i) ∧ (rwAt ls i).length ≤ c1
theorem RowsC.below {w w' : World} {A : Option Addr} {ls : List (List Int)} (h : RowsC w A ls) (hb : Below w.heap.size w w') : RowsC w' A ls := by
  intro hp
  obtain ⟨b, off, rfl, hlt, hc⟩ := h hp
  refine ⟨b, off, rfl, Nat.lt_of_lt_of_le hlt hb.size, fun i hi => ?_⟩
  obtain ⟨A1, c1, h1, h2, h3⟩ := hc i hi
  exact ⟨A1, c1, (hb.cell (p := ⟨b, off + i, none⟩) hlt).trans h1, h2.below hb, h3⟩
/-- A value that is an orbit set, as it is handed over. -/
def OrbIx (w : World) (x : Value) (z : Int) (l : List Int) (m : List (List Int)) : Prop :=
  ∃ A c B d, x = .agg #[.int .i64 z, .slice A l.length c, .slice B m.length d] ∧ ConstAt w A c l ∧ RowsIn w (.slice B m.length d) m ∧ RowsC w B m
theorem OrbIx.below {w w' : World} {x : Value} {z : Int} {l : List Int} {m : List (List Int)} (h : OrbIx w x z l m) (hb : Below w.heap.size w w') : OrbIx w' x z l m := by
  obtain ⟨A, c, B, d, rfl, h1, h2, h3⟩ := h
  exact ⟨A, c, B, d, rfl, h1.below hb, h2.below hb, h3.below hb⟩
end Go.Proofs.Ytnamlgacjhnpnaa
end

