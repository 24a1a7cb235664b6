/-
  Slices of slices of numbers: how they lie in memory, and what they count; plain words, no program is walked here. Terms as trees, how they lie in memory, and their counts; plain words, no program is walked here. Lists of booleans in memory; plain words, no program is walked here.
-/
import Derived.Test.YtkhjdidcpoefdaaKComplementMachine2
import Derived.Test.YtkhjdidcpoefdaaKComplementMachine1
section
namespace Go.Proofs.Ytkhjdidcpoefdaa
open Go.RowKit
set_option linter.unusedVariables false

def intMem (l : List Int) : Mem := .row 3 1 ((icells l).map .cell)
def encR (ls : List (List Int)) : List Mem := ls.map intMem
def rowsMem (ls : List (List Int)) : Mem := .row 34 1 (encR ls)
/-- A slice value reads as rows. -/
def RowsIn (w : World) (x : Value) (ls : List (List Int)) : Prop := At w x (rowsMem ls)
theorem RowsIn.below {w w' : World} {x : Value} {ls : List (List Int)} (h : RowsIn w x ls) (hb : Below w.heap.size w w') : RowsIn w' x ls := At.keep hb h
theorem ownL_plain {w : World} : ∀ {vs : List Value} {T : List Nat} {us : List Value}, OwnL w T us (vs.map .cell) → T = []
  | [], _, _, h => by cases h; rfl
  | v :: r, _, _, h => by
    cases h with
    | cons h k hd =>
      cases h
      rw [ownL_plain k]; rfl

/-- What owns cells, as a row of the call's own. -/
theorem cellRow_own {w : World} {S : List Nat} {v : Value} {n : Nat} {vs : List Value} {e : TypeId} (hn : vs.length = n) (h : Own w S v (.row e 1 (vs.map .cell))) : w.ownsRow 0 e 1 v n vs ∧ S = v.ownBlock.toList := by
  subst hn
  generalize hm : vs.map Mem.cell = ms at h
  cases h with
  | nil =>
    have e : vs = [] := by simpa using hm
    subst e
    exact ⟨World.ownsRow_nil w _ _ _, rfl⟩
  | row hl ho hL hg =>
    subst hm
    rw [List.length_map] at hl
    rename_i n cap xs S'
    have en : n = vs.length := by omega
    subst en
    have ex := atL_cells hL.at_
    subst ex
    refine ⟨ho, ?_⟩
    rw [ownL_plain hL]
    rfl
theorem cellRow_of {w : World} {v : Value} {n base : Nat} {vs : List Value} {e : TypeId} (h : w.ownsRow base e 1 v n vs) : Own w v.ownBlock.toList v (.row e 1 (vs.map .cell)) := by
  rcases h.2 with ⟨rfl, h0⟩ | ⟨g, cap, cur, rfl, hb, hg, hn, hm, hs, ht⟩
  · have e : vs = [] := List.eq_nil_of_length_eq_zero (by have := h.1; omega)
    subst e
    exact .nil _ _
  · exact .row (by rw [List.length_map]; exact h.1) ⟨h.1, .inr ⟨g, cap, cur, rfl, Nat.zero_le _, hg, hn, hm, hs, ht⟩⟩ (ownL_cells w _) (by simp)

theorem marked_len (k : Int) (n : Nat) : (marked k n).length = n := by simp [marked]
end Go.Proofs.Ytkhjdidcpoefdaa
end

section
namespace Go.Proofs.Ytkhjdidcpoefdaa
open Go.RowKit

inductive Tm where
  | mk : Int → Int → List (Int × Int) → List Tm → Tm

def Tm.op : Tm → Int | .mk o _ _ _ => o
mutual
/-- How many terms lie within. -/
def szT : Tm → Nat
  | .mk _ _ _ ks => 1 + szTs ks
def szTs : List Tm → Nat
  | [] => 0
  | t :: r => szT t + szTs r
end

mutual
/-- How much of the bound a term takes. -/
def cntT : Tm → Nat
  | .mk _ _ p ks => p.length + (ks.length + sumT ks)
def sumT : List Tm → Nat
  | [] => 0
  | t :: r => cntT t + sumT r
end

mutual
/-- No list within is longer than the bound. -/
def Fit : Tm → Prop
  | .mk _ _ p ks => p.length ≤ 1048576 ∧ ks.length ≤ 1048576 ∧ Fits ks
def Fits : List Tm → Prop
  | [] => True
  | t :: r => Fit t ∧ Fits r
end

mutual
theorem fit_of : ∀ t : Tm, cntT t ≤ 1048576 → Fit t
  | .mk o n p ks, h => by
    rw [cntT] at h
    exact ⟨by omega, by omega, fits_of ks (by omega)⟩
theorem fits_of : ∀ ts : List Tm, sumT ts ≤ 1048576 → Fits ts
  | [], _ => trivial
  | t :: r, h => by
    rw [sumT] at h
    exact ⟨fit_of t (by omega), fits_of r (by omega)⟩
end
end Go.Proofs.Ytkhjdidcpoefdaa
end

section
namespace Go.Proofs.Ytkhjdidcpoefdaa
open Go.RowKit

/-- The boolean at a place of a list. -/
def btAt (l : List Bool) (i : Nat) : Bool := l.getD i false

def bcells (l : List Bool) : List Value := l.map Value.bool

theorem bcells_at (l : List Bool) (i : Nat) (h : i < l.length) : (bcells l)[i]? = some (.bool (btAt l i)) := by
  simp [bcells, btAt, h]
theorem bcells_len (l : List Bool) : (bcells l).length = l.length := by simp [bcells]
theorem bcells_append (a b : List Bool) : bcells (a ++ b) = bcells a ++ bcells b := by simp [bcells]
/-- A slice's address, at which the booleans of a list lie one behind the other. -/
def BoolsAt (w : World) (A : Option Addr) (l : List Bool) : Prop :=
  0 < l.length → ∃ b off, A = some ⟨b, off, none⟩ ∧ b < w.heap.size ∧ ∀ i, i < l.length → w.cell? ⟨b, off + i, none⟩ = some (.bool (btAt l i))

theorem BoolsAt.below {w w' : World} {A : Option Addr} {l : List Bool} (h : BoolsAt w A l) (hb : Below w.heap.size w w') : BoolsAt w' A l := by
  intro hl
  obtain ⟨b, off, rfl, hlt, hc⟩ := h hl
  exact ⟨b, off, rfl, Nat.lt_of_lt_of_le hlt hb.size, fun i hi => (hb.cell (p := ⟨b, off + i, none⟩) hlt).trans (hc i hi)⟩

/-- A new slice of the booleans. -/
def NewBools (l : List Bool) (w : World) (e : Ending) (w' : World) : Prop :=
  ∃ v, e = .returned v ∧ w'.ownsRow w.heap.size 4 1 v l.length (bcells l) ∧ Below w.heap.size w w'

theorem own_boolsAt {w : World} {base : Nat} {e : TypeId} {v : Value} {l : List Bool} (h : w.ownsRow base e 1 v l.length (bcells l)) :
    ∃ A c, v = .slice A l.length c ∧ BoolsAt w A l := by
  rcases h.2 with ⟨rfl, h0⟩ | ⟨g, cap, cur, rfl, hb, hh, _⟩
  · rw [h0]
    exact ⟨none, 0, rfl, fun hp => absurd hp (by omega)⟩
  · refine ⟨_, cap, rfl, fun _ => ⟨g, 0, rfl, (Array.getElem?_eq_some_iff.1 hh).1, fun i hi => ?_⟩⟩
    rw [Nat.zero_add]
    exact (h.cellAt i (by omega)).trans (bcells_at l i hi)

theorem bdiffer_at {xs ys : List Bool} (k : Nat) (h : ¬ btAt xs k = btAt ys k) : decide (xs = ys) = false := by
  simp only [decide_eq_false_iff_not]
  intro e
  exact h (by rw [e])

theorem bsame_all {xs ys : List Bool} (hl : xs.length = ys.length) (h : xs.take xs.length = ys.take xs.length) : decide (xs = ys) = true := by
  rw [List.take_length, hl, List.take_length] at h
  simpa using h

/-- Which booleans mark places. -/
def bmk (k : Int) : Bool := k % 3 == 0
def bmarked (k : Int) (n : Nat) : List Value := (List.range n).map fun i : Nat => .bool (bmk (k + i))
theorem bmarked_at (k : Int) (n i : Nat) (h : i < n) : (bmarked k n)[i]? = some (.bool (bmk (k + i))) := by
  simp [bmarked, List.getElem?_map, List.getElem?_range h]
theorem bmarked_len (k : Int) (n : Nat) : (bmarked k n).length = n := by simp [bmarked]
end Go.Proofs.Ytkhjdidcpoefdaa
end

