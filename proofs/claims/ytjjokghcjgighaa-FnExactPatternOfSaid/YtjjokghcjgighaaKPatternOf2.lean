/-
  Plain words for lists of integers in memory.
-/
import Derived.Test.YtjjokghcjgighaaKPatternOf1
namespace Go.Proofs.Ytjjokghcjgighaa
open Go.RowKit

/-- The number at a place of a list. -/
def itAt (l : List Int) (i : Nat) : Int := l.getD i 0

def icells (l : List Int) : List Value := l.map (Value.int .i64)

theorem icells_at (l : List Int) (i : Nat) (h : i < l.length) : (icells l)[i]? = some (.int .i64 (itAt l i)) := by
  simp [icells, itAt, h]
theorem icells_len (l : List Int) : (icells l).length = l.length := by simp [icells]
theorem icells_append (a b : List Int) : icells (a ++ b) = icells a ++ icells b := by simp [icells]
theorem itAt_get (l : List Int) (i : Nat) (h : i < l.length) : itAt l i = l[i] := by simp [itAt, h]

/-- A slice's address, at which the numbers of a list lie one behind the other. -/
def IntsAt (w : World) (A : Option Addr) (l : List Int) : Prop :=
  0 < l.length → ∃ b off, A = some ⟨b, off, none⟩ ∧ b < w.heap.size ∧ ∀ i, i < l.length → w.cell? ⟨b, off + i, none⟩ = some (.int .i64 (itAt l i))

theorem IntsAt.below {w w' : World} {A : Option Addr} {l : List Int} (h : IntsAt w A l) (hb : Below w.heap.size w w') : IntsAt w' A l := by
  intro hl
  obtain ⟨b, off, rfl, hlt, hc⟩ := h hl
  exact ⟨b, off, rfl, Nat.lt_of_lt_of_le hlt hb.size, fun i hi => (hb.cell (p := ⟨b, off + i, none⟩) hlt).trans (hc i hi)⟩

/-- A new slice of the numbers. -/
def NewInts (l : List Int) (w : World) (e : Ending) (w' : World) : Prop :=
  ∃ v, e = .returned v ∧ w'.ownsRow w.heap.size 3 1 v l.length (icells l) ∧ Below w.heap.size w w'

theorem own_intsAt {w : World} {base : Nat} {e : TypeId} {v : Value} {l : List Int} (h : w.ownsRow base e 1 v l.length (icells l)) :
    ∃ A c, v = .slice A l.length c ∧ IntsAt w A l := by
  rcases h.2 with ⟨rfl, h0⟩ | ⟨g, cap, cur, rfl, hb, hh, _⟩
  · rw [h0]
    exact ⟨none, 0, rfl, fun hp => absurd hp (by omega)⟩
  · refine ⟨_, cap, rfl, fun _ => ⟨g, 0, rfl, (Array.getElem?_eq_some_iff.1 hh).1, fun i hi => ?_⟩⟩
    rw [Nat.zero_add]
    exact (h.cellAt i (by omega)).trans (icells_at l i hi)

theorem newInts_nil (w : World) : NewInts [] w (.returned (.slice none 0 0)) w :=
  ⟨_, rfl, World.ownsRow_nil w _ _ _, Below.refl _ _⟩

theorem idiffer_at {xs ys : List Int} (k : Nat) (h : ¬ itAt xs k = itAt ys k) : decide (xs = ys) = false := by
  simp only [decide_eq_false_iff_not]
  intro e
  exact h (by rw [e])

theorem isame_all {xs ys : List Int} (hl : xs.length = ys.length) (h : xs.take xs.length = ys.take xs.length) : decide (xs = ys) = true := by
  rw [List.take_length, hl, List.take_length] at h
  simpa using h

theorem itake_next {xs : List Int} {k : Nat} (h : k < xs.length) : xs.take (k + 1) = xs.take k ++ [itAt xs k] := by
  rw [List.take_succ_eq_append_getElem h, itAt_get xs k h]

end Go.Proofs.Ytjjokghcjgighaa
