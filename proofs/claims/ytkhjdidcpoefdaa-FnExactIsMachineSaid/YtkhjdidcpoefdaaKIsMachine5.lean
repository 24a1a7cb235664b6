/-
  Lists of booleans in memory; plain words, no program is walked here.
-/
import Derived.Test.YtkhjdidcpoefdaaKIsMachine1
namespace Go.Proofs.Ytkhjdidcpoefdaa
open Go.RowKit

/-- The boolean at a place of a list. -/
def btAt (l : List Bool) (i : Nat) : Bool := l.getD i false

def bcells (l : List Bool) : List Value := l.map Value.bool

theorem bcells_at (l : List Bool) (i : Nat) (h : i < l.length) : (bcells l)[i]? = some (.bool (btAt l i)) := by
  simp [bcells, btAt, h]
theorem bcells_len (l : List Bool) : (bcells l).length = l.length := by simp [bcells]
/-- A slice's address, at which the booleans of a list lie one behind the other. -/
def BoolsAt (w : World) (A : Option Addr) (l : List Bool) : Prop :=
  0 < l.length → ∃ b off, A = some ⟨b, off, none⟩ ∧ b < w.heap.size ∧ ∀ i, i < l.length → w.cell? ⟨b, off + i, none⟩ = some (.bool (btAt l i))

theorem BoolsAt.below {w w' : World} {A : Option Addr} {l : List Bool} (h : BoolsAt w A l) (hb : Below w.heap.size w w') : BoolsAt w' A l := by
  intro hl
  obtain ⟨b, off, rfl, hlt, hc⟩ := h hl
  exact ⟨b, off, rfl, Nat.lt_of_lt_of_le hlt hb.size, fun i hi => (hb.cell (p := ⟨b, off + i, none⟩) hlt).trans (hc i hi)⟩

/-- A new slice of the booleans. -/
def NewBools (l : List Bool) (w : World) (e : Ending) (w' : World) : Prop :=
  ∃ v, e = .returned v ∧ w'.ownsRow w.heap.size 4 1 v l.length (bcells l) ∧ Below w.heap.size w w'

theorem own_boolsAt {w : World} {base : Nat} {e : TypeId} {v : Value} {l : List Bool} (h : w.ownsRow base e 1 v l.length (bcells l)) :
    ∃ A c, v = .slice A l.length c ∧ BoolsAt w A l := by
  rcases h.2 with ⟨rfl, h0⟩ | ⟨g, cap, cur, rfl, hb, hh, _⟩
  · rw [h0]
    exact ⟨none, 0, rfl, fun hp => absurd hp (by omega)⟩
  · refine ⟨_, cap, rfl, fun _ => ⟨g, 0, rfl, (Array.getElem?_eq_some_iff.1 hh).1, fun i hi => ?_⟩⟩
    rw [Nat.zero_add]
    exact (h.cellAt i (by omega)).trans (bcells_at l i hi)

theorem bdiffer_at {xs ys : List Bool} (k : Nat) (h : ¬ btAt xs k = btAt ys k) : decide (xs = ys) = false := by
  simp only [decide_eq_false_iff_not]
  intro e
  exact h (by rw [e])

theorem bsame_all {xs ys : List Bool} (hl : xs.length = ys.length) (h : xs.take xs.length = ys.take xs.length) : decide (xs = ys) = true := by
  rw [List.take_length, hl, List.take_length] at h
  simpa using h

end Go.Proofs.Ytkhjdidcpoefdaa
