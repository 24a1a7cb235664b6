/-
  The size of a term that the laws count, as contracts. The laws' own copy of a term, as contracts. The comparison of two pairs and of two lists of pairs, as contracts. Comparing numbers, atoms, and finding a pair by its first atom, as contracts. Whether moves are in order, as a contract. Whether a list of pairs is a permutation, as the program decides it: a contract. Whether a list of pairs is a permutation, as the model decides it: a contract; and that both decide alike. What is a term: plain words, no program is walked here. All terms within a term: plain words. The shape of a term, in the model, as contracts. What is a term, and how great it is, in the model, as contracts. Numbering the cells of a term that is handed over by value, as a contract. Index terms and function terms as plain words: no program is walked here. Steps by indices: plain words, no program is walked here. The shape of a term, in the program, as contracts.
-/
import Derived.Test.YtihijigbdpjcoaaKStepIndices1
import Derived.Test.YtihijigbdpjcoaaKStepIndices2
import Derived.BigQuiet
import Derived.Lib.QuietBelow
import Derived.WalkLawsBesides
import Derived.WalkSpells
import Derived.Lib.Hide
section
namespace Go.Proofs.Ytihijigbdpjcoaa
open Go.RowKit Go.Sort

/-- What is left of a bound. -/
def leftR (left : Int) (c : Nat) : Int := if (c : Int) ≤ left then left - c else -1

theorem leftR_yes {left : Int} {c : Nat} (h : (c : Int) ≤ left) : leftR left c = left - c := by simp [leftR, h]
theorem leftR_no {left : Int} {c : Nat} (h : ¬ (c : Int) ≤ left) : leftR left c = -1 := by simp [leftR, h]

/-- The answer, and new blocks at most. -/
def LeftPost (left : Int) (c : Nat) (w : World) (e : Ending) (w' : World) : Prop := e = .returned (.int .i64 (leftR left c)) ∧ Below w.heap.size w w'

theorem LeftPost.later {left : Int} {c : Nat} {w w1 w2 : World} {e : Ending} (h : LeftPost left c w1 e w2) (hb : Below w.heap.size w w1) : LeftPost left c w e w2 := ⟨h.1, hb.trans (h.2.mono hb.size)⟩

mutual
/-- .. anywhere within. -/
def Short : Tm → Prop
  | .mk _ _ p ks => p.length ≤ maxLen ∧ ks.length ≤ maxLen ∧ Shorts ks
def Shorts : List Tm → Prop
  | [] => True
  | t :: r => Short t ∧ Shorts r
end

end Go.Proofs.Ytihijigbdpjcoaa
end

section
namespace Go.Proofs.Ytihijigbdpjcoaa
open Go.RowKit Go.Sort

theorem Own.setCell_other {w : World} {S : List Nat} {v : Value} {m : Mem} (h : Own w S v m) (a : Addr) (u : Value) (hb : ∀ b ∈ S, b ≠ a.block) : Own (w.setCell a u) S v m :=
  h.alike fun b hb' => Below.heap_setCell w a u b (hb b hb')

theorem OwnL.setOther {w : World} {S : List Nat} {vs : List Value} {ms : List Mem} (h : OwnL w S vs ms) (a : Addr) (u : Value) (hb : ∀ b ∈ S, b ≠ a.block) : OwnL (w.setCell a u) S vs ms :=
  h.alike fun b hb' => Below.heap_setCell w a u b (hb b hb')

theorem OwnL.kept {w w' : World} {S : List Nat} {vs : List Value} {ms : List Mem} {row : Option Nat} (h : OwnL w S vs ms) (hg : w.grownBy w' row) (hn : ∀ b ∈ S, some b ≠ row) : OwnL w' S vs ms :=
  h.alike fun b hb => hg.block b (h.lt b hb) (hn b hb)

end Go.Proofs.Ytihijigbdpjcoaa
end

section
namespace Go.Proofs.Ytihijigbdpjcoaa
open Go.RowKit Go.Sort

end Go.Proofs.Ytihijigbdpjcoaa
end

section
namespace Go.Proofs.Ytihijigbdpjcoaa
section
open Go.RowKit Go.Sort

def atomB (a : Int) : Bool := decide (0 ≤ a ∧ a ≤ 999)

theorem isAtom_any (a : Int) (w : World) :
    Calls Try.prog 87 #[.int .i64 a] w fun e w' => e = .returned (.bool (atomB a)) ∧ w = w' := by
  by_cases h1 : 0 ≤ a
  · by_cases h2 : a ≤ 999
    · go_enter Try.func87, Try.ntmps87
      go_wp2
      go_ret
      exact ⟨bool_end (by simp [atomB, h1, h2]), rfl⟩
    · have k2 : decide (a ≤ 999) = false := by simpa using h2
      have k3 : 999 < a := by omega
      clear h2
      go_enter Try.func87, Try.ntmps87
      go_wp2
      go_ret
      exact ⟨bool_end (by simp [atomB]; omega), rfl⟩
  · have k1 : a < 0 := by omega
    clear h1
    go_enter Try.func87, Try.ntmps87
    go_wp2
    go_ret
    exact ⟨bool_end (by simp [atomB]; omega), rfl⟩

end

section
open Go.RowKit Go.Sort

/-- What is asked of the pair at a place. -/
def okAt (l : List (Int × Int)) (i : Nat) : Bool :=
  atomB (prAt l i).1 && (atomB (prAt l i).2 && (decide ((prAt l i).1 ≠ (prAt l i).2) && (decide (i = 0) || decide ((prAt l (i - 1)).1 < (prAt l i).1))))

def orderB (l : List (Int × Int)) : Bool := (List.range l.length).all (okAt l)

end
end Go.Proofs.Ytihijigbdpjcoaa
end

section
namespace Go.Proofs.Ytihijigbdpjcoaa
open Go.RowKit Go.Sort

def froms (l : List (Int × Int)) : List Int := l.map (·.1)
def tos (l : List (Int × Int)) : List Int := l.map (·.2)

/-- Which atoms of the pairs have been given by the first k. -/
def gBit (l : List (Int × Int)) (k q : Nat) : Bool := decide (q < l.length) && ((tos l).take k).contains (prAt l q).1
def gBits (l : List (Int × Int)) (k : Nat) : List Value := (List.range 40).map fun q => .bool (gBit l k q)

theorem gBits_at (l : List (Int × Int)) (k q : Nat) (h : q < 40) : (gBits l k)[q]? = some (.bool (gBit l k q)) := by
  simp [gBits, List.getElem?_map, List.getElem?_range h]

def goodAt (l : List (Int × Int)) (k : Nat) : Bool := (froms l).contains (prAt l k).2 && !((tos l).take k).contains (prAt l k).2

/-- Whether a list of pairs is a permutation. -/
def permB (l : List (Int × Int)) : Bool := decide (l.length ≤ 40) && (orderB l && (List.range l.length).all (goodAt l))

/-- The block of marks after k pairs. -/
def Marks (w : World) (G : Nat) (l : List (Int × Int)) (k : Nat) : Prop := w.heap[G]? = some (.cells (gBits l k).toArray 142 (0, 0))

theorem Marks.lt {w : World} {G : Nat} {l : List (Int × Int)} {k : Nat} (h : Marks w G l k) : G < w.heap.size := (Array.getElem?_eq_some_iff.1 h).1
theorem Marks.cell {w : World} {G : Nat} {l : List (Int × Int)} {k : Nat} (h : Marks w G l k) (q : Nat) (hq : q < 40) : w.cell? ⟨G, q, none⟩ = some (.bool (gBit l k q)) := by
  rw [cell_of_row w G q _ _ _ h]
  simpa using gBits_at l k q hq
theorem Marks.frozen {w : World} {G : Nat} {l : List (Int × Int)} {k : Nat} (h : Marks w G l k) (q : Nat) : w.frozen? ⟨G, q, none⟩ = false := frozen_of_row w G q _ _ h
theorem Marks.below {w w' : World} {G : Nat} {l : List (Int × Int)} {k : Nat} (h : Marks w G l k) (hb : Below w.heap.size w w') : Marks w' G l k := (hb.block G h.lt).trans h
theorem Marks.alloc {w : World} {G : Nat} {l : List (Int × Int)} {k : Nat} (h : Marks w G l k) (o : Obj) : Marks (w.alloc o) G l k := h.below ((Below.refl _ _).alloc (Nat.le_refl _) o)
end Go.Proofs.Ytihijigbdpjcoaa
end

section
namespace Go.Proofs.Ytihijigbdpjcoaa
open Go.RowKit Go.Sort

theorem l1Atom_any (a : Int) (w : World) :
    Calls Try.prog 86 #[.int .i64 a] w fun e w' => e = .returned (.bool (atomB a)) ∧ w = w' := by
  by_cases h1 : 0 ≤ a
  · by_cases h2 : a ≤ 999
    · go_enter Try.func86, Try.ntmps86
      go_wp2
      go_ret
      exact ⟨bool_end (by simp [atomB, h1, h2]), rfl⟩
    · have k2 : decide (a ≤ 999) = false := by simpa using h2
      have k3 : 999 < a := by omega
      clear h2
      go_enter Try.func86, Try.ntmps86
      go_wp2
      go_ret
      exact ⟨bool_end (by simp [atomB]; omega), rfl⟩
  · have k1 : a < 0 := by omega
    clear h1
    go_enter Try.func86, Try.ntmps86
    go_wp2
    go_ret
    exact ⟨bool_end (by simp [atomB]; omega), rfl⟩

end Go.Proofs.Ytihijigbdpjcoaa
end

section
namespace Go.Proofs.Ytihijigbdpjcoaa
section
open Go.RowKit

def shapeB (t : Tm) : Bool :=
  if t.op = 1 then atomB t.num && (decide (t.perm.length = 0) && decide (t.kids.length = 0))
  else if t.op = 2 then decide (0 ≤ t.num ∧ t.num ≤ 11) && (decide (t.perm.length = 0) && decide ((t.kids.length : Int) = t.num % 4))
  else if t.op = 3 then atomB t.num && (decide (t.perm.length = 0) && decide (t.kids.length = 1))
  else if t.op = 4 then decide (0 ≤ t.num ∧ t.num ≤ 9) && (permB t.perm && decide (t.kids.length = 0))
  else false

mutual
/-- Right, however great. -/
def goodT : Tm → Bool
  | .mk o n p ks => shapeB (.mk o n p ks) && goodTs ks
def goodTs : List Tm → Bool
  | [] => true
  | t :: r => goodT t && goodTs r
end

end

section
open Go.RowKit

mutual
def nodesT : Tm → List Tm
  | .mk o n p ks => .mk o n p ks :: nodesTs ks
def nodesTs : List Tm → List Tm
  | [] => []
  | t :: r => nodesT t ++ nodesTs r
end

/-- What is known while the terms within t are gone through: i of F have been looked at. -/
structure Walk (t : Tm) (F : List Tm) (i : Nat) : Prop where
  le : i ≤ F.length
  most : F.length ≤ 60
  good : goodT t = goodTs (F.drop i)
  size : szT t = i + szTs (F.drop i)
  mem : ∀ y, y ∈ nodesT t ↔ y ∈ F.take i ∨ y ∈ nodesTs (F.drop i)

end
end Go.Proofs.Ytihijigbdpjcoaa
end

section
namespace Go.Proofs.Ytihijigbdpjcoaa
open Go.RowKit Go.Sort
set_option linter.unusedVariables false

theorem l1In_any (x a b : Int) (w : World) :
    Calls Try.prog 85 #[.int .i64 x, .int .i64 a, .int .i64 b] w fun e w' => e = .returned (.bool (decide (a ≤ x ∧ x ≤ b))) ∧ w = w' := by
  by_cases h1 : a ≤ x
  · by_cases h2 : x ≤ b
    · have r : Hid (decide (a ≤ x ∧ x ≤ b) = true) := decide_eq_true ⟨h1, h2⟩
      go_enter Try.func85, Try.ntmps85
      go_wp2
      go_ret
      first | exact ⟨rfl, rfl⟩ | exact ⟨bool_end r.out.symm, rfl⟩
    · have r : Hid (decide (a ≤ x ∧ x ≤ b) = false) := decide_eq_false fun h => h2 h.2
      have k2 : decide (x ≤ b) = false := decide_eq_false h2
      have k3 : b < x := by omega
      go_enter Try.func85, Try.ntmps85
      go_wp2
      go_ret
      first | exact ⟨rfl, rfl⟩ | exact ⟨bool_end r.out.symm, rfl⟩
  · have r : Hid (decide (a ≤ x ∧ x ≤ b) = false) := decide_eq_false fun h => h1 h.1
    have k1 : decide (a ≤ x) = false := decide_eq_false h1
    have k3 : x < a := by omega
    go_enter Try.func85, Try.ntmps85
    go_wp2
    go_ret
    first | exact ⟨rfl, rfl⟩ | exact ⟨bool_end r.out.symm, rfl⟩

end Go.Proofs.Ytihijigbdpjcoaa
end

section
namespace Go.Proofs.Ytihijigbdpjcoaa
open Go.RowKit Go.Sort

mutual
theorem szT_le : ∀ t : Tm, szT t ≤ 1 + cntT t
  | .mk o n p ks => by
    have := szTs_le ks
    rw [szT, cntT]; omega
theorem szTs_le : ∀ ts : List Tm, szTs ts ≤ ts.length + sumT ts
  | [] => by simp [szTs]
  | t :: r => by
    have h1 := szT_le t
    have h2 := szTs_le r
    rw [szTs, sumT, List.length_cons]; omega
end

/-- The answer, and new blocks at most. -/
def BoolPost (b : Bool) (w : World) (e : Ending) (w' : World) : Prop := e = .returned (.bool b) ∧ Below w.heap.size w w'
def IntPost (n : Int) (w : World) (e : Ending) (w' : World) : Prop := e = .returned (.int .i64 n) ∧ Below w.heap.size w w'

end Go.Proofs.Ytihijigbdpjcoaa
end

section
namespace Go.Proofs.Ytihijigbdpjcoaa
open Go.RowKit

mutual
theorem mcT_le : ∀ t : Tm, mcT t ≤ 2 + 2 * cntT t
  | .mk o n p ks => by
    have := mcTs_le ks
    rw [mcT, cntT]; omega
theorem mcTs_le : ∀ ts : List Tm, mcTs ts ≤ 2 * (ts.length + sumT ts)
  | [] => by simp [mcTs]
  | t :: r => by
    have h1 := mcT_le t
    have h2 := mcTs_le r
    rw [mcTs, sumT, List.length_cons]; omega
end

end Go.Proofs.Ytihijigbdpjcoaa
end

section
namespace Go.Proofs.Ytihijigbdpjcoaa
open Go.RowKit
set_option linter.unusedVariables false

/-- What an index term is, as far as its numbers may be any. -/
inductive Li where
  | bnd : Int → Li
  | free : Int → Li
  | fn : Li → Li
  | app : Li → Li → Li

def liIx : Li → Ix
  | .bnd n => .mk 1 n []
  | .free a => .mk 2 a []
  | .fn x => .mk 3 0 [liIx x]
  | .app x y => .mk 4 0 [liIx x, liIx y]

def szL : Li → Nat
  | .bnd _ => 1
  | .free _ => 1
  | .fn x => 1 + szL x
  | .app x y => 1 + szL x + szL y
theorem szL_pos (l : Li) : 0 < szL l := by cases l <;> simp [szL] <;> omega
theorem szIx_li : ∀ l : Li, szIx (liIx l) = szL l
  | .bnd _ => by simp [liIx, szIx, szIxs, szL]
  | .free _ => by simp [liIx, szIx, szIxs, szL]
  | .fn x => by simp [liIx, szIx, szIxs, szL, szIx_li x]
  | .app x y => by simp [liIx, szIx, szIxs, szL, szIx_li x, szIx_li y]; omega

/-- Its numbers are right. -/
def okL : Li → Prop
  | .bnd n => 0 ≤ n ∧ n ≤ 999
  | .free a => atomB a = true
  | .fn x => okL x
  | .app x y => okL x ∧ okL y

def shapeI (t : Ix) : Bool :=
  if t.op = 1 then decide (0 ≤ t.num ∧ t.num ≤ 999) && decide (t.kids.length = 0)
  else if t.op = 2 then atomB t.num && decide (t.kids.length = 0)
  else if t.op = 3 then decide (t.num = 0) && decide (t.kids.length = 1)
  else if t.op = 4 then decide (t.num = 0) && decide (t.kids.length = 2)
  else false

mutual
/-- Right, however great. -/
def goodI : Ix → Bool
  | .mk o n ks => shapeI (.mk o n ks) && goodIs ks
def goodIs : List Ix → Bool
  | [] => true
  | t :: r => goodI t && goodIs r
end
theorem goodI_eq (t : Ix) : goodI t = (shapeI t && goodIs t.kids) := by cases t; simp [goodI, Ix.kids]
theorem goodIs_append : ∀ a b : List Ix, goodIs (a ++ b) = (goodIs a && goodIs b)
  | [], b => by simp [goodIs]
  | t :: r, b => by rw [List.cons_append, goodIs, goodIs, goodIs_append r b, Bool.and_assoc]
theorem goodIs_next {ts : List Ix} {k : Nat} (h : k < ts.length) : goodIs (ts.take (k + 1)) = (goodIs (ts.take k) && goodI (ixAt ts k)) := by
  rw [ix_take_next h, goodIs_append]
  simp [goodIs]
theorem goodIs_no : ∀ {ts : List Ix} {i : Nat}, i < ts.length → goodI (ixAt ts i) = false → goodIs ts = false
  | [], i, h, _ => by simp at h
  | t :: r, 0, _, h => by rw [ixAt_cons_zero] at h; simp [goodIs, h]
  | t :: r, i + 1, hi, h => by
    rw [ixAt_cons_succ] at h
    simp [goodIs, goodIs_no (by simpa using hi) h]
/-- An index term. -/
def isIndexB (t : Ix) : Bool := goodI t && decide (szIx t ≤ 60)

theorem ixkids_mk' (o n : Int) (ks : List Ix) : (Ix.mk o n ks).kids = ks := rfl

theorem shapeI_mk (o n : Int) (ks : List Ix) : shapeI (.mk o n ks) = (if o = 1 then decide (0 ≤ n ∧ n ≤ 999) && decide (ks.length = 0)
  else if o = 2 then atomB n && decide (ks.length = 0)
  else if o = 3 then decide (n = 0) && decide (ks.length = 1)
  else if o = 4 then decide (n = 0) && decide (ks.length = 2)
  else false) := rfl

/-- What is right comes of the words. -/
theorem li_of_good : ∀ (N : Nat) (t : Ix), szIx t ≤ N → goodI t = true → ∃ l, t = liIx l ∧ okL l := by
  intro N
  induction N with
  | zero => intro t h; rw [szIx_eq] at h; omega
  | succ N ih =>
    intro t hN hg
    cases t with
    | mk o n ks =>
      rw [goodI_eq, Bool.and_eq_true] at hg
      obtain ⟨hs, hk⟩ := hg
      rw [szIx_eq] at hN
      rw [shapeI_mk] at hs
      rw [ixkids_mk'] at hk hN
      by_cases h1 : o = 1
      · rw [if_pos h1] at hs
        simp only [Bool.and_eq_true, decide_eq_true_eq] at hs
        exact ⟨.bnd n, by rw [liIx, h1, List.length_eq_zero_iff.1 hs.2], hs.1⟩
      rw [if_neg h1] at hs
      by_cases h2 : o = 2
      · rw [if_pos h2] at hs
        simp only [Bool.and_eq_true, decide_eq_true_eq] at hs
        exact ⟨.free n, by rw [liIx, h2, List.length_eq_zero_iff.1 hs.2], hs.1⟩
      rw [if_neg h2] at hs
      by_cases h3 : o = 3
      · rw [if_pos h3] at hs
        simp only [Bool.and_eq_true, decide_eq_true_eq] at hs
        obtain ⟨k, rfl⟩ := List.length_eq_one_iff.1 hs.2
        simp only [goodIs, Bool.and_true, szIxs] at hk hN
        obtain ⟨l, rfl, hl⟩ := ih k (by omega) hk
        exact ⟨.fn l, by rw [liIx, h3, hs.1], hl⟩
      rw [if_neg h3] at hs
      by_cases h4 : o = 4
      · rw [if_pos h4] at hs
        simp only [Bool.and_eq_true, decide_eq_true_eq] at hs
        match ks, hs.2 with
        | [k1, k2], _ =>
          simp only [goodIs, Bool.and_true, szIxs, Bool.and_eq_true] at hk hN
          obtain ⟨l1, rfl, hl1⟩ := ih k1 (by omega) hk.1
          obtain ⟨l2, rfl, hl2⟩ := ih k2 (by omega) hk.2
          exact ⟨.app l1 l2, by rw [liIx, h4, hs.1], hl1, hl2⟩
      · rw [if_neg h4] at hs
        simp at hs

theorem index_li {t : Ix} (h : isIndexB t = true) : ∃ l, t = liIx l ∧ okL l ∧ szL l ≤ 60 := by
  rw [isIndexB, Bool.and_eq_true, decide_eq_true_eq] at h
  obtain ⟨l, rfl, hl⟩ := li_of_good _ t (Nat.le_refl _) h.1
  exact ⟨l, rfl, hl, by rw [← szIx_li]; exact h.2⟩
mutual
/-- The same, as the model asks it of any tree. -/
def closedI : Ix → Int → Bool
  | .mk o n ks, d => if o = 1 then decide (n < d) else closedIs ks (if o = 3 then d + 1 else d)
def closedIs : List Ix → Int → Bool
  | [], _ => true
  | t :: r, d => closedI t d && closedIs r d
end
mutual
def nodesI : Ix → List Ix
  | .mk o n ks => .mk o n ks :: nodesIs ks
def nodesIs : List Ix → List Ix
  | [] => []
  | t :: r => nodesI t ++ nodesIs r
end
theorem szIxs_app : ∀ a b : List Ix, szIxs (a ++ b) = szIxs a + szIxs b
  | [], b => by simp [szIxs]
  | t :: r, b => by rw [List.cons_append, szIxs, szIxs, szIxs_app r b]; omega
theorem len_szIxs : ∀ ts : List Ix, ts.length ≤ szIxs ts
  | [] => by simp [szIxs]
  | t :: r => by have := len_szIxs r; have := szIx_eq t; rw [szIxs, List.length_cons]; omega
theorem ix_drop' {ts : List Ix} {k : Nat} (h : k < ts.length) : ts.drop k = ixAt ts k :: ts.drop (k + 1) := by
  rw [List.drop_eq_getElem_cons h, ixAt_get ts k h]

/-- What is known while all within t are gone through: i of F have been looked at. -/
structure WalkI (t : Ix) (F : List Ix) (i : Nat) : Prop where
  le : i ≤ F.length
  most : F.length ≤ 60
  good : goodI t = goodIs (F.drop i)
  size : szIx t = i + szIxs (F.drop i)

theorem walkI_start (t : Ix) : WalkI t [t] 0 :=
  ⟨Nat.zero_le _, by simp, by simp [goodIs], by simp [szIxs]⟩
theorem walkI_next {t : Ix} {F : List Ix} {i : Nat} (h : WalkI t F i) (hi : i < F.length) (hs : shapeI (ixAt F i) = true) (hl : F.length + (ixAt F i).kids.length ≤ 60) : WalkI t (F ++ (ixAt F i).kids) (i + 1) := by
  have hd := ix_drop' hi
  have hd2 : (F ++ (ixAt F i).kids).drop (i + 1) = F.drop (i + 1) ++ (ixAt F i).kids := List.drop_append_of_le_length (by omega)
  refine ⟨by rw [List.length_append]; omega, by rw [List.length_append]; exact hl, ?_, ?_⟩
  · rw [h.good, hd, hd2, goodIs_append, goodIs, goodI_eq, hs, Bool.true_and, Bool.and_comm]
  · rw [h.size, hd, hd2, szIxs_app, szIxs, szIx_eq]; omega
theorem walkI_bad {t : Ix} {F : List Ix} {i : Nat} (h : WalkI t F i) (hi : i < F.length) (hs : shapeI (ixAt F i) = false) : isIndexB t = false := by
  have hd := ix_drop' hi
  have h1 := h.good
  rw [hd, goodIs, goodI_eq (ixAt F i), hs] at h1
  simp [isIndexB, h1]
theorem walkI_great {t : Ix} {F : List Ix} {i : Nat} (h : WalkI t F i) (hi : i < F.length) (hl : 60 < F.length + (ixAt F i).kids.length) : isIndexB t = false := by
  have hd := ix_drop' hi
  have h1 := h.size
  rw [hd, szIxs, szIx_eq (ixAt F i)] at h1
  have h2 := len_szIxs (F.drop (i + 1))
  have h3 := len_szIxs (ixAt F i).kids
  rw [List.length_drop] at h2
  have : ¬ szIx t ≤ 60 := by omega
  simp [isIndexB, this]
theorem walkI_end {t : Ix} {F : List Ix} {i : Nat} (h : WalkI t F i) (hi : F.length ≤ i) : isIndexB t = true ∧ F.length = szIx t := by
  have e : i = F.length := by have := h.le; omega
  subst e
  have h1 := h.good
  have h2 := h.size
  rw [List.drop_length] at h1 h2
  simp only [goodIs, szIxs] at h1 h2
  have h3 := h.most
  exact ⟨by simp [isIndexB, h1]; omega, by omega⟩

/-! Function terms. -/
inductive Ft where
  | var : Int → Ft
  | lam : Int → Ft → Ft
  | app : Ft → Ft → Ft
end Go.Proofs.Ytihijigbdpjcoaa
end

section
namespace Go.Proofs.Ytihijigbdpjcoaa
open Go.RowKit
set_option linter.unusedVariables false

def raiseL : Li → Int → Int → Li
  | .bnd n, d, a => if n < a then .bnd n else .bnd (n + d)
  | .free n, _, _ => .free n
  | .fn x, d, a => .fn (raiseL x d (a + 1))
  | .app x y, d, a => .app (raiseL x d a) (raiseL y d a)
def fillL : Li → Int → Li → Li
  | .bnd n, d, u => if n = d then raiseL u d 0 else if d < n then .bnd (n - 1) else .bnd n
  | .free n, _, _ => .free n
  | .fn x, d, u => .fn (fillL x (d + 1) u)
  | .app x y, d, u => .app (fillL x d u) (fillL y d u)
/-- Whether there is a redex. -/
def stepB : Li → Bool
  | .bnd _ => false
  | .free _ => false
  | .fn x => stepB x
  | .app (.fn _) _ => true
  | .app (.bnd _) y => stepB y
  | .app (.free _) y => stepB y
  | .app (.app f g) y => if stepB (.app f g) then true else stepB y
/-- What a step makes of it, or it itself. -/
def stepD : Li → Li
  | .bnd n => .bnd n
  | .free n => .free n
  | .fn x => .fn (stepD x)
  | .app (.fn b) y => fillL b 0 y
  | .app (.bnd n) y => .app (.bnd n) (stepD y)
  | .app (.free n) y => .app (.free n) (stepD y)
  | .app (.app f g) y => if stepB (.app f g) then .app (stepD (.app f g)) y else .app (.app f g) (stepD y)
def notFn : Li → Prop
  | .fn _ => False
  | _ => True
theorem stepB_app {f y : Li} (h : notFn f) : stepB (.app f y) = if stepB f then true else stepB y := by
  cases f with
  | fn => exact absurd h (by simp [notFn])
  | bnd n => simp [stepB]
  | free n => simp [stepB]
  | app f g => rw [stepB]
theorem stepD_app {f y : Li} (h : notFn f) : stepD (.app f y) = if stepB f then .app (stepD f) y else .app f (stepD y) := by
  cases f with
  | fn => exact absurd h (by simp [notFn])
  | bnd n => simp [stepB, stepD]
  | free n => simp [stepB, stepD]
  | app f g => rw [stepD]
theorem raise_0 : ∀ (l : Li) (a : Int), raiseL l 0 a = l
  | .bnd n, a => by simp [raiseL]
  | .free n, a => rfl
  | .fn x, a => by rw [raiseL, raise_0 x]
  | .app x y, a => by rw [raiseL, raise_0 x, raise_0 y]
theorem szL_raise : ∀ (l : Li) (d a : Int), szL (raiseL l d a) = szL l
  | .bnd n, d, a => by rw [raiseL]; split <;> simp [szL]
  | .free n, d, a => rfl
  | .fn x, d, a => by rw [raiseL, szL, szL, szL_raise x]
  | .app x y, d, a => by rw [raiseL, szL, szL, szL_raise x, szL_raise y]
theorem szL_fill : ∀ (l : Li) (d : Int) (u : Li), szL (fillL l d u) ≤ szL l * szL u
  | .bnd n, d, u => by
    rw [fillL]
    have := szL_pos u
    split
    · rw [szL_raise, szL]; omega
    · split <;> simp [szL] <;> omega
  | .free n, d, u => by have := szL_pos u; simp [fillL, szL]; omega
  | .fn x, d, u => by
    have h := szL_fill x (d + 1) u
    have := szL_pos u
    rw [fillL, szL, szL, Nat.add_mul]; omega
  | .app x y, d, u => by
    have h1 := szL_fill x d u
    have h2 := szL_fill y d u
    have := szL_pos u
    rw [fillL, szL, szL, Nat.add_mul, Nat.add_mul]; omega
theorem sq3 (a b : Nat) : 1 + a * a + b ≤ (1 + a + b) * (1 + a + b) := by
  simp only [Nat.add_mul, Nat.mul_add, Nat.mul_one, Nat.one_mul]
  omega
theorem szL_step : ∀ l : Li, szL (stepD l) ≤ szL l * szL l
  | .bnd n => by simp [stepD, szL]
  | .free n => by simp [stepD, szL]
  | .fn x => by
    have h := szL_step x
    have h2 := sq3 (szL x) 0
    rw [stepD]
    simp only [szL, Nat.add_zero] at h2 ⊢
    omega
  | .app (.fn b) y => by
    rw [stepD]
    have h := szL_fill b 0 y
    refine Nat.le_trans h (Nat.mul_le_mul ?_ ?_) <;> simp [szL] <;> omega
  | .app (.bnd n) y => by
    have h := szL_step y
    have h2 := sq3 (szL y) 1
    rw [stepD]
    simp only [szL] at h2 ⊢
    rw [show 1 + 1 + szL y = 1 + szL y + 1 by omega]
    omega
  | .app (.free n) y => by
    have h := szL_step y
    have h2 := sq3 (szL y) 1
    rw [stepD]
    simp only [szL] at h2 ⊢
    rw [show 1 + 1 + szL y = 1 + szL y + 1 by omega]
    omega
  | .app (.app f g) y => by
    have h1 := szL_step (.app f g)
    have h2 := szL_step y
    have h3 := sq3 (szL (.app f g)) (szL y)
    have h4 := sq3 (szL y) (szL (.app f g))
    rw [stepD]
    generalize Li.app f g = z at *
    rw [show szL (.app z y) = 1 + szL z + szL y from rfl]
    rw [show 1 + szL y + szL z = 1 + szL z + szL y by omega] at h4
    split
    · rw [szL]; omega
    · rw [szL]; omega
end Go.Proofs.Ytihijigbdpjcoaa
end

section
namespace Go.Proofs.Ytihijigbdpjcoaa
open Go.RowKit Go.Sort
set_option linter.unusedVariables false

end Go.Proofs.Ytihijigbdpjcoaa
end

