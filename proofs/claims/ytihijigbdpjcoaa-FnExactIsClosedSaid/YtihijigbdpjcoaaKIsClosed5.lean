/-
  Comparing numbers, atoms, and finding a pair by its first atom, as contracts. Whether moves are in order, as a contract. Whether a list of pairs is a permutation, as the program decides it: a contract. Whether a list of pairs is a permutation, as the model decides it: a contract; and that both decide alike. What is a term: plain words, no program is walked here. All terms within a term: plain words.
-/
import Derived.Test.YtihijigbdpjcoaaKIsClosed1
import Derived.WalkLawsBesides
import Derived.WalkSpells
import Derived.BigQuiet
import Derived.Lib.QuietBelow
import Derived.Test.YtihijigbdpjcoaaKIsClosed4
section
namespace Go.Proofs.Ytihijigbdpjcoaa
section
open Go.RowKit Go.Sort

def atomB (a : Int) : Bool := decide (0 ≤ a ∧ a ≤ 999)

theorem isAtom_any (a : Int) (w : World) :
    Calls Try.prog 87 #[.int .i64 a] w fun e w' => e = .returned (.bool (atomB a)) ∧ w = w' := by
  by_cases h1 : 0 ≤ a
  · by_cases h2 : a ≤ 999
    · go_enter Try.func87, Try.ntmps87
      go_wp2
      go_ret
      exact ⟨bool_end (by simp [atomB, h1, h2]), rfl⟩
    · have k2 : decide (a ≤ 999) = false := by simpa using h2
      have k3 : 999 < a := by omega
      clear h2
      go_enter Try.func87, Try.ntmps87
      go_wp2
      go_ret
      exact ⟨bool_end (by simp [atomB]; omega), rfl⟩
  · have k1 : a < 0 := by omega
    clear h1
    go_enter Try.func87, Try.ntmps87
    go_wp2
    go_ret
    exact ⟨bool_end (by simp [atomB]; omega), rfl⟩

end

section
open Go.RowKit Go.Sort

/-- What is asked of the pair at a place. -/
def okAt (l : List (Int × Int)) (i : Nat) : Bool :=
  atomB (prAt l i).1 && (atomB (prAt l i).2 && (decide ((prAt l i).1 ≠ (prAt l i).2) && (decide (i = 0) || decide ((prAt l (i - 1)).1 < (prAt l i).1))))

def orderB (l : List (Int × Int)) : Bool := (List.range l.length).all (okAt l)

end
end Go.Proofs.Ytihijigbdpjcoaa
end

section
namespace Go.Proofs.Ytihijigbdpjcoaa
open Go.RowKit Go.Sort

def froms (l : List (Int × Int)) : List Int := l.map (·.1)
def tos (l : List (Int × Int)) : List Int := l.map (·.2)

/-- Which atoms of the pairs have been given by the first k. -/
def gBit (l : List (Int × Int)) (k q : Nat) : Bool := decide (q < l.length) && ((tos l).take k).contains (prAt l q).1
def gBits (l : List (Int × Int)) (k : Nat) : List Value := (List.range 40).map fun q => .bool (gBit l k q)

theorem gBits_at (l : List (Int × Int)) (k q : Nat) (h : q < 40) : (gBits l k)[q]? = some (.bool (gBit l k q)) := by
  simp [gBits, List.getElem?_map, List.getElem?_range h]

def goodAt (l : List (Int × Int)) (k : Nat) : Bool := (froms l).contains (prAt l k).2 && !((tos l).take k).contains (prAt l k).2

/-- Whether a list of pairs is a permutation. -/
def permB (l : List (Int × Int)) : Bool := decide (l.length ≤ 40) && (orderB l && (List.range l.length).all (goodAt l))

/-- The block of marks after k pairs. -/
def Marks (w : World) (G : Nat) (l : List (Int × Int)) (k : Nat) : Prop := w.heap[G]? = some (.cells (gBits l k).toArray 142 (0, 0))

theorem Marks.lt {w : World} {G : Nat} {l : List (Int × Int)} {k : Nat} (h : Marks w G l k) : G < w.heap.size := (Array.getElem?_eq_some_iff.1 h).1
theorem Marks.cell {w : World} {G : Nat} {l : List (Int × Int)} {k : Nat} (h : Marks w G l k) (q : Nat) (hq : q < 40) : w.cell? ⟨G, q, none⟩ = some (.bool (gBit l k q)) := by
  rw [cell_of_row w G q _ _ _ h]
  simpa using gBits_at l k q hq
theorem Marks.below {w w' : World} {G : Nat} {l : List (Int × Int)} {k : Nat} (h : Marks w G l k) (hb : Below w.heap.size w w') : Marks w' G l k := (hb.block G h.lt).trans h
theorem Marks.alloc {w : World} {G : Nat} {l : List (Int × Int)} {k : Nat} (h : Marks w G l k) (o : Obj) : Marks (w.alloc o) G l k := h.below ((Below.refl _ _).alloc (Nat.le_refl _) o)
end Go.Proofs.Ytihijigbdpjcoaa
end

section
namespace Go.Proofs.Ytihijigbdpjcoaa
open Go.RowKit Go.Sort

theorem l1Atom_any (a : Int) (w : World) :
    Calls Try.prog 86 #[.int .i64 a] w fun e w' => e = .returned (.bool (atomB a)) ∧ w = w' := by
  by_cases h1 : 0 ≤ a
  · by_cases h2 : a ≤ 999
    · go_enter Try.func86, Try.ntmps86
      go_wp2
      go_ret
      exact ⟨bool_end (by simp [atomB, h1, h2]), rfl⟩
    · have k2 : decide (a ≤ 999) = false := by simpa using h2
      have k3 : 999 < a := by omega
      clear h2
      go_enter Try.func86, Try.ntmps86
      go_wp2
      go_ret
      exact ⟨bool_end (by simp [atomB]; omega), rfl⟩
  · have k1 : a < 0 := by omega
    clear h1
    go_enter Try.func86, Try.ntmps86
    go_wp2
    go_ret
    exact ⟨bool_end (by simp [atomB]; omega), rfl⟩

end Go.Proofs.Ytihijigbdpjcoaa
end

section
namespace Go.Proofs.Ytihijigbdpjcoaa
section
open Go.RowKit

def shapeB (t : Tm) : Bool :=
  if t.op = 1 then atomB t.num && (decide (t.perm.length = 0) && decide (t.kids.length = 0))
  else if t.op = 2 then decide (0 ≤ t.num ∧ t.num ≤ 11) && (decide (t.perm.length = 0) && decide ((t.kids.length : Int) = t.num % 4))
  else if t.op = 3 then atomB t.num && (decide (t.perm.length = 0) && decide (t.kids.length = 1))
  else if t.op = 4 then decide (0 ≤ t.num ∧ t.num ≤ 9) && (permB t.perm && decide (t.kids.length = 0))
  else false

mutual
/-- Right, however great. -/
def goodT : Tm → Bool
  | .mk o n p ks => shapeB (.mk o n p ks) && goodTs ks
def goodTs : List Tm → Bool
  | [] => true
  | t :: r => goodT t && goodTs r
end

end

section
open Go.RowKit

mutual
def nodesT : Tm → List Tm
  | .mk o n p ks => .mk o n p ks :: nodesTs ks
def nodesTs : List Tm → List Tm
  | [] => []
  | t :: r => nodesT t ++ nodesTs r
end

/-- What is known while the terms within t are gone through: i of F have been looked at. -/
structure Walk (t : Tm) (F : List Tm) (i : Nat) : Prop where
  le : i ≤ F.length
  most : F.length ≤ 60
  good : goodT t = goodTs (F.drop i)
  size : szT t = i + szTs (F.drop i)
  mem : ∀ y, y ∈ nodesT t ↔ y ∈ F.take i ∨ y ∈ nodesTs (F.drop i)

end
end Go.Proofs.Ytihijigbdpjcoaa
end

