/-
  The comparison of two pairs and of two lists of pairs, as contracts. Comparing numbers, atoms, and finding a pair by its first atom, as contracts. Whether moves are in order, as a contract. Whether a list of pairs is a permutation, as the program decides it: a contract.
-/
import Derived.Test.YtihijigbdpjcoaaKIsIndexTerm1
import Derived.WalkLawsBesides
import Derived.WalkSpells
import Derived.BigQuiet
import Derived.Lib.QuietBelow
import Derived.Lib.Hide
section
namespace Go.Proofs.Ytihijigbdpjcoaa
open Go.RowKit Go.Sort

end Go.Proofs.Ytihijigbdpjcoaa
end

section
namespace Go.Proofs.Ytihijigbdpjcoaa
section
open Go.RowKit Go.Sort

def atomB (a : Int) : Bool := decide (0 ≤ a ∧ a ≤ 999)

theorem isAtom_any (a : Int) (w : World) :
    Calls Try.prog 87 #[.int .i64 a] w fun e w' => e = .returned (.bool (atomB a)) ∧ w = w' := by
  by_cases h1 : 0 ≤ a
  · by_cases h2 : a ≤ 999
    · go_enter Try.func87, Try.ntmps87
      go_wp2
      go_ret
      exact ⟨bool_end (by simp [atomB, h1, h2]), rfl⟩
    · have k2 : decide (a ≤ 999) = false := by simpa using h2
      have k3 : 999 < a := by omega
      clear h2
      go_enter Try.func87, Try.ntmps87
      go_wp2
      go_ret
      exact ⟨bool_end (by simp [atomB]; omega), rfl⟩
  · have k1 : a < 0 := by omega
    clear h1
    go_enter Try.func87, Try.ntmps87
    go_wp2
    go_ret
    exact ⟨bool_end (by simp [atomB]; omega), rfl⟩

end

section
open Go.RowKit Go.Sort

/-- What is asked of the pair at a place. -/
def okAt (l : List (Int × Int)) (i : Nat) : Bool :=
  atomB (prAt l i).1 && (atomB (prAt l i).2 && (decide ((prAt l i).1 ≠ (prAt l i).2) && (decide (i = 0) || decide ((prAt l (i - 1)).1 < (prAt l i).1))))

def orderB (l : List (Int × Int)) : Bool := (List.range l.length).all (okAt l)

end
end Go.Proofs.Ytihijigbdpjcoaa
end

section
namespace Go.Proofs.Ytihijigbdpjcoaa
open Go.RowKit Go.Sort

def froms (l : List (Int × Int)) : List Int := l.map (·.1)
def tos (l : List (Int × Int)) : List Int := l.map (·.2)

/-- Which atoms of the pairs have been given by the first k. -/
def gBit (l : List (Int × Int)) (k q : Nat) : Bool := decide (q < l.length) && ((tos l).take k).contains (prAt l q).1
def gBits (l : List (Int × Int)) (k : Nat) : List Value := (List.range 40).map fun q => .bool (gBit l k q)

theorem gBits_at (l : List (Int × Int)) (k q : Nat) (h : q < 40) : (gBits l k)[q]? = some (.bool (gBit l k q)) := by
  simp [gBits, List.getElem?_map, List.getElem?_range h]

def goodAt (l : List (Int × Int)) (k : Nat) : Bool := (froms l).contains (prAt l k).2 && !((tos l).take k).contains (prAt l k).2

/-- Whether a list of pairs is a permutation. -/
def permB (l : List (Int × Int)) : Bool := decide (l.length ≤ 40) && (orderB l && (List.range l.length).all (goodAt l))

/-- The block of marks after k pairs. -/
def Marks (w : World) (G : Nat) (l : List (Int × Int)) (k : Nat) : Prop := w.heap[G]? = some (.cells (gBits l k).toArray 142 (0, 0))

theorem Marks.lt {w : World} {G : Nat} {l : List (Int × Int)} {k : Nat} (h : Marks w G l k) : G < w.heap.size := (Array.getElem?_eq_some_iff.1 h).1
theorem Marks.cell {w : World} {G : Nat} {l : List (Int × Int)} {k : Nat} (h : Marks w G l k) (q : Nat) (hq : q < 40) : w.cell? ⟨G, q, none⟩ = some (.bool (gBit l k q)) := by
  rw [cell_of_row w G q _ _ _ h]
  simpa using gBits_at l k q hq
theorem Marks.below {w w' : World} {G : Nat} {l : List (Int × Int)} {k : Nat} (h : Marks w G l k) (hb : Below w.heap.size w w') : Marks w' G l k := (hb.block G h.lt).trans h
theorem Marks.alloc {w : World} {G : Nat} {l : List (Int × Int)} {k : Nat} (h : Marks w G l k) (o : Obj) : Marks (w.alloc o) G l k := h.below ((Below.refl _ _).alloc (Nat.le_refl _) o)
end Go.Proofs.Ytihijigbdpjcoaa
end

