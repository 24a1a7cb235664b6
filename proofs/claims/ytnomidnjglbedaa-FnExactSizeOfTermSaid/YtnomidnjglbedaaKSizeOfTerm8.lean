/-
  What is a term: plain words, no program is walked here. All terms within a term: plain words.
-/
import Derived.Test.YtnomidnjglbedaaKSizeOfTerm3
import Derived.Test.YtnomidnjglbedaaKSizeOfTerm7
namespace Go.Proofs.Ytnomidnjglbedaa
section
open Go.RowKit

def shapeB (t : Tm) : Bool :=
  if t.op = 1 then atomB t.num && (decide (t.perm.length = 0) && decide (t.kids.length = 0))
  else if t.op = 2 then decide (0 ≤ t.num ∧ t.num ≤ 11) && (decide (t.perm.length = 0) && decide ((t.kids.length : Int) = t.num % 4))
  else if t.op = 3 then atomB t.num && (decide (t.perm.length = 0) && decide (t.kids.length = 1))
  else if t.op = 4 then decide (0 ≤ t.num ∧ t.num ≤ 9) && (permB t.perm && decide (t.kids.length = 0))
  else false

mutual
/-- Right, however great. -/
def goodT : Tm → Bool
  | .mk o n p ks => shapeB (.mk o n p ks) && goodTs ks
def goodTs : List Tm → Bool
  | [] => true
  | t :: r => goodT t && goodTs r
end

theorem goodT_eq (t : Tm) : goodT t = (shapeB t && goodTs t.kids) := by cases t; simp [goodT, Tm.kids]
theorem goodTs_append : ∀ a b : List Tm, goodTs (a ++ b) = (goodTs a && goodTs b)
  | [], b => by simp [goodTs]
  | t :: r, b => by rw [List.cons_append, goodTs, goodTs, goodTs_append r b, Bool.and_assoc]
theorem goodTs_next {ts : List Tm} {k : Nat} (h : k < ts.length) : goodTs (ts.take (k + 1)) = (goodTs (ts.take k) && goodT (tmAt ts k)) := by
  rw [tm_take_next h, goodTs_append]
  simp [goodTs]
theorem goodTs_no : ∀ {ts : List Tm} {i : Nat}, i < ts.length → goodT (tmAt ts i) = false → goodTs ts = false
  | [], i, h, _ => by simp at h
  | t :: r, 0, _, h => by rw [tmAt_cons_zero] at h; simp [goodTs, h]
  | t :: r, i + 1, hi, h => by
    rw [tmAt_cons_succ] at h
    simp [goodTs, goodTs_no (by simpa using hi) h]
/-- A term. -/
def isTermB (t : Tm) : Bool := goodT t && decide (szT t ≤ 60)
end

section
open Go.RowKit

mutual
def nodesT : Tm → List Tm
  | .mk o n p ks => .mk o n p ks :: nodesTs ks
def nodesTs : List Tm → List Tm
  | [] => []
  | t :: r => nodesT t ++ nodesTs r
end

theorem nodesT_eq (t : Tm) : nodesT t = t :: nodesTs t.kids := by cases t; simp [nodesT, Tm.kids]
theorem nodesTs_append : ∀ a b : List Tm, nodesTs (a ++ b) = nodesTs a ++ nodesTs b
  | [], b => by simp [nodesTs]
  | t :: r, b => by rw [List.cons_append, nodesTs, nodesTs, nodesTs_append r b, List.append_assoc]
theorem szTs_app : ∀ a b : List Tm, szTs (a ++ b) = szTs a + szTs b
  | [], b => by simp [szTs]
  | t :: r, b => by rw [List.cons_append, szTs, szTs, szTs_app r b]; omega
theorem len_szTs : ∀ ts : List Tm, ts.length ≤ szTs ts
  | [] => by simp [szTs]
  | t :: r => by have := len_szTs r; have := szT_eq t; rw [szTs, List.length_cons]; omega

/-- What is known while the terms within t are gone through: i of F have been looked at. -/
structure Walk (t : Tm) (F : List Tm) (i : Nat) : Prop where
  le : i ≤ F.length
  most : F.length ≤ 60
  good : goodT t = goodTs (F.drop i)
  size : szT t = i + szTs (F.drop i)
  mem : ∀ y, y ∈ nodesT t ↔ y ∈ F.take i ∨ y ∈ nodesTs (F.drop i)

theorem walk_start (t : Tm) : Walk t [t] 0 :=
  ⟨Nat.zero_le _, by simp, by simp [goodTs], by simp [szTs], fun y => by simp [nodesTs]⟩

theorem walk_next {t : Tm} {F : List Tm} {i : Nat} (h : Walk t F i) (hi : i < F.length) (hs : shapeB (tmAt F i) = true) (hl : F.length + (tmAt F i).kids.length ≤ 60) : Walk t (F ++ (tmAt F i).kids) (i + 1) := by
  have hd := tm_drop hi
  have hd2 : (F ++ (tmAt F i).kids).drop (i + 1) = F.drop (i + 1) ++ (tmAt F i).kids := List.drop_append_of_le_length (by omega)
  have ht2 : (F ++ (tmAt F i).kids).take (i + 1) = F.take i ++ [tmAt F i] := by rw [List.take_append_of_le_length (by omega), tm_take_next hi]
  refine ⟨by rw [List.length_append]; omega, by rw [List.length_append]; exact hl, ?_, ?_, fun y => ?_⟩
  · rw [h.good, hd, hd2, goodTs_append, goodTs, goodT_eq, hs, Bool.true_and, Bool.and_comm]
  · rw [h.size, hd, hd2, szTs_app, szTs, szT_eq]; omega
  · rw [h.mem, hd, hd2, ht2, nodesTs_append, nodesTs, nodesT_eq]
    simp only [List.mem_append, List.mem_cons, List.mem_nil_iff, or_false, List.cons_append]
    constructor
    · rintro (h | h | h | h)
      · exact .inl (.inl h)
      · exact .inl (.inr h)
      · exact .inr (.inr h)
      · exact .inr (.inl h)
    · rintro ((h | h) | (h | h))
      · exact .inl h
      · exact .inr (.inl h)
      · exact .inr (.inr (.inr h))
      · exact .inr (.inr (.inl h))

theorem walk_bad {t : Tm} {F : List Tm} {i : Nat} (h : Walk t F i) (hi : i < F.length) (hs : shapeB (tmAt F i) = false) : isTermB t = false := by
  have hd := tm_drop hi
  have h1 := h.good
  rw [hd, goodTs, goodT_eq (tmAt F i), hs] at h1
  simp [isTermB, h1]

theorem walk_great {t : Tm} {F : List Tm} {i : Nat} (h : Walk t F i) (hi : i < F.length) (hl : 60 < F.length + (tmAt F i).kids.length) : isTermB t = false := by
  have hd := tm_drop hi
  have h1 := h.size
  rw [hd, szTs, szT_eq (tmAt F i)] at h1
  have h2 := len_szTs (F.drop (i + 1))
  have h3 := len_szTs (tmAt F i).kids
  rw [List.length_drop] at h2
  have : ¬ szT t ≤ 60 := by omega
  simp [isTermB, this]

theorem walk_end {t : Tm} {F : List Tm} {i : Nat} (h : Walk t F i) (hi : F.length ≤ i) : isTermB t = true ∧ F.length = szT t ∧ ∀ y, y ∈ F ↔ y ∈ nodesT t := by
  have e : i = F.length := by have := h.le; omega
  subst e
  have h1 := h.good
  have h2 := h.size
  rw [List.drop_length] at h1 h2
  simp only [goodTs, szTs] at h1 h2
  have h3 := h.most
  refine ⟨by simp [isTermB, h1]; omega, by omega, fun y => ?_⟩
  rw [h.mem, List.drop_length, List.take_length]
  simp [nodesTs]
end
end Go.Proofs.Ytnomidnjglbedaa
