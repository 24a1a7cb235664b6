/-
  Index terms and function terms as plain words: no program is walked here.
-/
import Derived.Test.YtihijigbdpjcoaaKIsIndexTerm4
import Derived.Test.YtihijigbdpjcoaaKIsIndexTerm7
namespace Go.Proofs.Ytihijigbdpjcoaa
open Go.RowKit
set_option linter.unusedVariables false

/-- What an index term is, as far as its numbers may be any. -/
inductive Li where
  | bnd : Int → Li
  | free : Int → Li
  | fn : Li → Li
  | app : Li → Li → Li

def shapeI (t : Ix) : Bool :=
  if t.op = 1 then decide (0 ≤ t.num ∧ t.num ≤ 999) && decide (t.kids.length = 0)
  else if t.op = 2 then atomB t.num && decide (t.kids.length = 0)
  else if t.op = 3 then decide (t.num = 0) && decide (t.kids.length = 1)
  else if t.op = 4 then decide (t.num = 0) && decide (t.kids.length = 2)
  else false

mutual
/-- Right, however great. -/
def goodI : Ix → Bool
  | .mk o n ks => shapeI (.mk o n ks) && goodIs ks
def goodIs : List Ix → Bool
  | [] => true
  | t :: r => goodI t && goodIs r
end
theorem goodI_eq (t : Ix) : goodI t = (shapeI t && goodIs t.kids) := by cases t; simp [goodI, Ix.kids]
theorem goodIs_append : ∀ a b : List Ix, goodIs (a ++ b) = (goodIs a && goodIs b)
  | [], b => by simp [goodIs]
  | t :: r, b => by rw [List.cons_append, goodIs, goodIs, goodIs_append r b, Bool.and_assoc]
theorem goodIs_next {ts : List Ix} {k : Nat} (h : k < ts.length) : goodIs (ts.take (k + 1)) = (goodIs (ts.take k) && goodI (ixAt ts k)) := by
  rw [ix_take_next h, goodIs_append]
  simp [goodIs]
theorem goodIs_no : ∀ {ts : List Ix} {i : Nat}, i < ts.length → goodI (ixAt ts i) = false → goodIs ts = false
  | [], i, h, _ => by simp at h
  | t :: r, 0, _, h => by rw [ixAt_cons_zero] at h; simp [goodIs, h]
  | t :: r, i + 1, hi, h => by
    rw [ixAt_cons_succ] at h
    simp [goodIs, goodIs_no (by simpa using hi) h]
/-- An index term. -/
def isIndexB (t : Ix) : Bool := goodI t && decide (szIx t ≤ 60)

mutual
def nodesI : Ix → List Ix
  | .mk o n ks => .mk o n ks :: nodesIs ks
def nodesIs : List Ix → List Ix
  | [] => []
  | t :: r => nodesI t ++ nodesIs r
end
theorem szIxs_app : ∀ a b : List Ix, szIxs (a ++ b) = szIxs a + szIxs b
  | [], b => by simp [szIxs]
  | t :: r, b => by rw [List.cons_append, szIxs, szIxs, szIxs_app r b]; omega
theorem len_szIxs : ∀ ts : List Ix, ts.length ≤ szIxs ts
  | [] => by simp [szIxs]
  | t :: r => by have := len_szIxs r; have := szIx_eq t; rw [szIxs, List.length_cons]; omega
theorem ix_drop' {ts : List Ix} {k : Nat} (h : k < ts.length) : ts.drop k = ixAt ts k :: ts.drop (k + 1) := by
  rw [List.drop_eq_getElem_cons h, ixAt_get ts k h]

/-- What is known while all within t are gone through: i of F have been looked at. -/
structure WalkI (t : Ix) (F : List Ix) (i : Nat) : Prop where
  le : i ≤ F.length
  most : F.length ≤ 60
  good : goodI t = goodIs (F.drop i)
  size : szIx t = i + szIxs (F.drop i)

theorem walkI_start (t : Ix) : WalkI t [t] 0 :=
  ⟨Nat.zero_le _, by simp, by simp [goodIs], by simp [szIxs]⟩
theorem walkI_next {t : Ix} {F : List Ix} {i : Nat} (h : WalkI t F i) (hi : i < F.length) (hs : shapeI (ixAt F i) = true) (hl : F.length + (ixAt F i).kids.length ≤ 60) : WalkI t (F ++ (ixAt F i).kids) (i + 1) := by
  have hd := ix_drop' hi
  have hd2 : (F ++ (ixAt F i).kids).drop (i + 1) = F.drop (i + 1) ++ (ixAt F i).kids := List.drop_append_of_le_length (by omega)
  refine ⟨by rw [List.length_append]; omega, by rw [List.length_append]; exact hl, ?_, ?_⟩
  · rw [h.good, hd, hd2, goodIs_append, goodIs, goodI_eq, hs, Bool.true_and, Bool.and_comm]
  · rw [h.size, hd, hd2, szIxs_app, szIxs, szIx_eq]; omega
theorem walkI_bad {t : Ix} {F : List Ix} {i : Nat} (h : WalkI t F i) (hi : i < F.length) (hs : shapeI (ixAt F i) = false) : isIndexB t = false := by
  have hd := ix_drop' hi
  have h1 := h.good
  rw [hd, goodIs, goodI_eq (ixAt F i), hs] at h1
  simp [isIndexB, h1]
theorem walkI_great {t : Ix} {F : List Ix} {i : Nat} (h : WalkI t F i) (hi : i < F.length) (hl : 60 < F.length + (ixAt F i).kids.length) : isIndexB t = false := by
  have hd := ix_drop' hi
  have h1 := h.size
  rw [hd, szIxs, szIx_eq (ixAt F i)] at h1
  have h2 := len_szIxs (F.drop (i + 1))
  have h3 := len_szIxs (ixAt F i).kids
  rw [List.length_drop] at h2
  have : ¬ szIx t ≤ 60 := by omega
  simp [isIndexB, this]
theorem walkI_end {t : Ix} {F : List Ix} {i : Nat} (h : WalkI t F i) (hi : F.length ≤ i) : isIndexB t = true ∧ F.length = szIx t := by
  have e : i = F.length := by have := h.le; omega
  subst e
  have h1 := h.good
  have h2 := h.size
  rw [List.drop_length] at h1 h2
  simp only [goodIs, szIxs] at h1 h2
  have h3 := h.most
  exact ⟨by simp [isIndexB, h1]; omega, by omega⟩

/-! Function terms. -/
inductive Ft where
  | var : Int → Ft
  | lam : Int → Ft → Ft
  | app : Ft → Ft → Ft
end Go.Proofs.Ytihijigbdpjcoaa
