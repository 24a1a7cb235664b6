/-
  Index terms and function terms as plain words: no program is walked here. The comparison of two pairs and of two lists of pairs, as contracts. The shape of a term, in the program, as contracts. The shape of a term, in the model, as contracts. What is a term, and how great it is, in the model, as contracts.
-/
import Derived.Test.YtihijigbdpjcoaaKIsClosed3
import Derived.Test.YtihijigbdpjcoaaKIsClosed5
import Derived.Test.YtihijigbdpjcoaaKIsClosed1
import Derived.WalkLawsBesides
import Derived.WalkSpells
import Derived.BigQuiet
import Derived.Lib.QuietBelow
import Derived.Lib.Hide
section
namespace Go.Proofs.Ytihijigbdpjcoaa
open Go.RowKit
set_option linter.unusedVariables false

/-- What an index term is, as far as its numbers may be any. -/
inductive Li where
  | bnd : Int → Li
  | free : Int → Li
  | fn : Li → Li
  | app : Li → Li → Li

def liIx : Li → Ix
  | .bnd n => .mk 1 n []
  | .free a => .mk 2 a []
  | .fn x => .mk 3 0 [liIx x]
  | .app x y => .mk 4 0 [liIx x, liIx y]

def szL : Li → Nat
  | .bnd _ => 1
  | .free _ => 1
  | .fn x => 1 + szL x
  | .app x y => 1 + szL x + szL y
theorem szIx_li : ∀ l : Li, szIx (liIx l) = szL l
  | .bnd _ => by simp [liIx, szIx, szIxs, szL]
  | .free _ => by simp [liIx, szIx, szIxs, szL]
  | .fn x => by simp [liIx, szIx, szIxs, szL, szIx_li x]
  | .app x y => by simp [liIx, szIx, szIxs, szL, szIx_li x, szIx_li y]; omega

/-- Its numbers are right. -/
def okL : Li → Prop
  | .bnd n => 0 ≤ n ∧ n ≤ 999
  | .free a => atomB a = true
  | .fn x => okL x
  | .app x y => okL x ∧ okL y

def shapeI (t : Ix) : Bool :=
  if t.op = 1 then decide (0 ≤ t.num ∧ t.num ≤ 999) && decide (t.kids.length = 0)
  else if t.op = 2 then atomB t.num && decide (t.kids.length = 0)
  else if t.op = 3 then decide (t.num = 0) && decide (t.kids.length = 1)
  else if t.op = 4 then decide (t.num = 0) && decide (t.kids.length = 2)
  else false

mutual
/-- Right, however great. -/
def goodI : Ix → Bool
  | .mk o n ks => shapeI (.mk o n ks) && goodIs ks
def goodIs : List Ix → Bool
  | [] => true
  | t :: r => goodI t && goodIs r
end
theorem goodI_eq (t : Ix) : goodI t = (shapeI t && goodIs t.kids) := by cases t; simp [goodI, Ix.kids]
theorem goodIs_append : ∀ a b : List Ix, goodIs (a ++ b) = (goodIs a && goodIs b)
  | [], b => by simp [goodIs]
  | t :: r, b => by rw [List.cons_append, goodIs, goodIs, goodIs_append r b, Bool.and_assoc]
theorem goodIs_next {ts : List Ix} {k : Nat} (h : k < ts.length) : goodIs (ts.take (k + 1)) = (goodIs (ts.take k) && goodI (ixAt ts k)) := by
  rw [ix_take_next h, goodIs_append]
  simp [goodIs]
theorem goodIs_no : ∀ {ts : List Ix} {i : Nat}, i < ts.length → goodI (ixAt ts i) = false → goodIs ts = false
  | [], i, h, _ => by simp at h
  | t :: r, 0, _, h => by rw [ixAt_cons_zero] at h; simp [goodIs, h]
  | t :: r, i + 1, hi, h => by
    rw [ixAt_cons_succ] at h
    simp [goodIs, goodIs_no (by simpa using hi) h]
/-- An index term. -/
def isIndexB (t : Ix) : Bool := goodI t && decide (szIx t ≤ 60)

theorem ixkids_mk' (o n : Int) (ks : List Ix) : (Ix.mk o n ks).kids = ks := rfl

theorem shapeI_mk (o n : Int) (ks : List Ix) : shapeI (.mk o n ks) = (if o = 1 then decide (0 ≤ n ∧ n ≤ 999) && decide (ks.length = 0)
  else if o = 2 then atomB n && decide (ks.length = 0)
  else if o = 3 then decide (n = 0) && decide (ks.length = 1)
  else if o = 4 then decide (n = 0) && decide (ks.length = 2)
  else false) := rfl

/-- What is right comes of the words. -/
theorem li_of_good : ∀ (N : Nat) (t : Ix), szIx t ≤ N → goodI t = true → ∃ l, t = liIx l ∧ okL l := by
  intro N
  induction N with
  | zero => intro t h; rw [szIx_eq] at h; omega
  | succ N ih =>
    intro t hN hg
    cases t with
    | mk o n ks =>
      rw [goodI_eq, Bool.and_eq_true] at hg
      obtain ⟨hs, hk⟩ := hg
      rw [szIx_eq] at hN
      rw [shapeI_mk] at hs
      rw [ixkids_mk'] at hk hN
      by_cases h1 : o = 1
      · rw [if_pos h1] at hs
        simp only [Bool.and_eq_true, decide_eq_true_eq] at hs
        exact ⟨.bnd n, by rw [liIx, h1, List.length_eq_zero_iff.1 hs.2], hs.1⟩
      rw [if_neg h1] at hs
      by_cases h2 : o = 2
      · rw [if_pos h2] at hs
        simp only [Bool.and_eq_true, decide_eq_true_eq] at hs
        exact ⟨.free n, by rw [liIx, h2, List.length_eq_zero_iff.1 hs.2], hs.1⟩
      rw [if_neg h2] at hs
      by_cases h3 : o = 3
      · rw [if_pos h3] at hs
        simp only [Bool.and_eq_true, decide_eq_true_eq] at hs
        obtain ⟨k, rfl⟩ := List.length_eq_one_iff.1 hs.2
        simp only [goodIs, Bool.and_true, szIxs] at hk hN
        obtain ⟨l, rfl, hl⟩ := ih k (by omega) hk
        exact ⟨.fn l, by rw [liIx, h3, hs.1], hl⟩
      rw [if_neg h3] at hs
      by_cases h4 : o = 4
      · rw [if_pos h4] at hs
        simp only [Bool.and_eq_true, decide_eq_true_eq] at hs
        match ks, hs.2 with
        | [k1, k2], _ =>
          simp only [goodIs, Bool.and_true, szIxs, Bool.and_eq_true] at hk hN
          obtain ⟨l1, rfl, hl1⟩ := ih k1 (by omega) hk.1
          obtain ⟨l2, rfl, hl2⟩ := ih k2 (by omega) hk.2
          exact ⟨.app l1 l2, by rw [liIx, h4, hs.1], hl1, hl2⟩
      · rw [if_neg h4] at hs
        simp at hs

theorem index_li {t : Ix} (h : isIndexB t = true) : ∃ l, t = liIx l ∧ okL l ∧ szL l ≤ 60 := by
  rw [isIndexB, Bool.and_eq_true, decide_eq_true_eq] at h
  obtain ⟨l, rfl, hl⟩ := li_of_good _ t (Nat.le_refl _) h.1
  exact ⟨l, rfl, hl, by rw [← szIx_li]; exact h.2⟩
/-- All places are closed, so many functions around. -/
def closedL : Li → Int → Bool
  | .bnd n, d => decide (n < d)
  | .free _, _ => true
  | .fn x, d => closedL x (d + 1)
  | .app x y, d => closedL x d && closedL y d

mutual
/-- The same, as the model asks it of any tree. -/
def closedI : Ix → Int → Bool
  | .mk o n ks, d => if o = 1 then decide (n < d) else closedIs ks (if o = 3 then d + 1 else d)
def closedIs : List Ix → Int → Bool
  | [], _ => true
  | t :: r, d => closedI t d && closedIs r d
end
theorem closedI_li : ∀ (l : Li) (d : Int), closedI (liIx l) d = closedL l d
  | .bnd n, d => by simp [liIx, closedI, closedL]
  | .free n, d => by simp [liIx, closedI, closedIs, closedL]
  | .fn x, d => by simp [liIx, closedI, closedIs, closedL, closedI_li x]
  | .app x y, d => by simp [liIx, closedI, closedIs, closedL, closedI_li x, closedI_li y]
theorem closedI_eq (t : Ix) (d : Int) : closedI t d = if t.op = 1 then decide (t.num < d) else closedIs t.kids (if t.op = 3 then d + 1 else d) := by
  cases t; rw [closedI]; rfl
theorem closedIs_append : ∀ (a b : List Ix) (d : Int), closedIs (a ++ b) d = (closedIs a d && closedIs b d)
  | [], b, d => by simp [closedIs]
  | t :: r, b, d => by rw [List.cons_append, closedIs, closedIs, closedIs_append r b, Bool.and_assoc]
theorem closedIs_next {ts : List Ix} {k : Nat} (h : k < ts.length) (d : Int) : closedIs (ts.take (k + 1)) d = (closedIs (ts.take k) d && closedI (ixAt ts k) d) := by
  rw [ix_take_next h, closedIs_append]
  simp [closedIs]
theorem closedIs_no : ∀ {ts : List Ix} {i : Nat} {d : Int}, i < ts.length → closedI (ixAt ts i) d = false → closedIs ts d = false
  | [], i, d, h, _ => by simp at h
  | t :: r, 0, d, _, h => by rw [ixAt_cons_zero] at h; simp [closedIs, h]
  | t :: r, i + 1, d, hi, h => by
    rw [ixAt_cons_succ] at h
    simp [closedIs, closedIs_no (by simpa using hi) h]

/-! Going through all nodes. -/
mutual
def nodesI : Ix → List Ix
  | .mk o n ks => .mk o n ks :: nodesIs ks
def nodesIs : List Ix → List Ix
  | [] => []
  | t :: r => nodesI t ++ nodesIs r
end
theorem szIxs_app : ∀ a b : List Ix, szIxs (a ++ b) = szIxs a + szIxs b
  | [], b => by simp [szIxs]
  | t :: r, b => by rw [List.cons_append, szIxs, szIxs, szIxs_app r b]; omega
theorem len_szIxs : ∀ ts : List Ix, ts.length ≤ szIxs ts
  | [] => by simp [szIxs]
  | t :: r => by have := len_szIxs r; have := szIx_eq t; rw [szIxs, List.length_cons]; omega
theorem ix_drop' {ts : List Ix} {k : Nat} (h : k < ts.length) : ts.drop k = ixAt ts k :: ts.drop (k + 1) := by
  rw [List.drop_eq_getElem_cons h, ixAt_get ts k h]

/-- What is known while all within t are gone through: i of F have been looked at. -/
structure WalkI (t : Ix) (F : List Ix) (i : Nat) : Prop where
  le : i ≤ F.length
  most : F.length ≤ 60
  good : goodI t = goodIs (F.drop i)
  size : szIx t = i + szIxs (F.drop i)

theorem walkI_start (t : Ix) : WalkI t [t] 0 :=
  ⟨Nat.zero_le _, by simp, by simp [goodIs], by simp [szIxs]⟩
theorem walkI_next {t : Ix} {F : List Ix} {i : Nat} (h : WalkI t F i) (hi : i < F.length) (hs : shapeI (ixAt F i) = true) (hl : F.length + (ixAt F i).kids.length ≤ 60) : WalkI t (F ++ (ixAt F i).kids) (i + 1) := by
  have hd := ix_drop' hi
  have hd2 : (F ++ (ixAt F i).kids).drop (i + 1) = F.drop (i + 1) ++ (ixAt F i).kids := List.drop_append_of_le_length (by omega)
  refine ⟨by rw [List.length_append]; omega, by rw [List.length_append]; exact hl, ?_, ?_⟩
  · rw [h.good, hd, hd2, goodIs_append, goodIs, goodI_eq, hs, Bool.true_and, Bool.and_comm]
  · rw [h.size, hd, hd2, szIxs_app, szIxs, szIx_eq]; omega
theorem walkI_bad {t : Ix} {F : List Ix} {i : Nat} (h : WalkI t F i) (hi : i < F.length) (hs : shapeI (ixAt F i) = false) : isIndexB t = false := by
  have hd := ix_drop' hi
  have h1 := h.good
  rw [hd, goodIs, goodI_eq (ixAt F i), hs] at h1
  simp [isIndexB, h1]
theorem walkI_great {t : Ix} {F : List Ix} {i : Nat} (h : WalkI t F i) (hi : i < F.length) (hl : 60 < F.length + (ixAt F i).kids.length) : isIndexB t = false := by
  have hd := ix_drop' hi
  have h1 := h.size
  rw [hd, szIxs, szIx_eq (ixAt F i)] at h1
  have h2 := len_szIxs (F.drop (i + 1))
  have h3 := len_szIxs (ixAt F i).kids
  rw [List.length_drop] at h2
  have : ¬ szIx t ≤ 60 := by omega
  simp [isIndexB, this]
theorem walkI_end {t : Ix} {F : List Ix} {i : Nat} (h : WalkI t F i) (hi : F.length ≤ i) : isIndexB t = true ∧ F.length = szIx t := by
  have e : i = F.length := by have := h.le; omega
  subst e
  have h1 := h.good
  have h2 := h.size
  rw [List.drop_length] at h1 h2
  simp only [goodIs, szIxs] at h1 h2
  have h3 := h.most
  exact ⟨by simp [isIndexB, h1]; omega, by omega⟩

/-! Function terms. -/
inductive Ft where
  | var : Int → Ft
  | lam : Int → Ft → Ft
  | app : Ft → Ft → Ft
end Go.Proofs.Ytihijigbdpjcoaa
end

section
namespace Go.Proofs.Ytihijigbdpjcoaa
open Go.RowKit Go.Sort

end Go.Proofs.Ytihijigbdpjcoaa
end

section
namespace Go.Proofs.Ytihijigbdpjcoaa
open Go.RowKit Go.Sort
set_option linter.unusedVariables false

end Go.Proofs.Ytihijigbdpjcoaa
end

section
namespace Go.Proofs.Ytihijigbdpjcoaa
open Go.RowKit Go.Sort
set_option linter.unusedVariables false

theorem l1In_any (x a b : Int) (w : World) :
    Calls Try.prog 85 #[.int .i64 x, .int .i64 a, .int .i64 b] w fun e w' => e = .returned (.bool (decide (a ≤ x ∧ x ≤ b))) ∧ w = w' := by
  by_cases h1 : a ≤ x
  · by_cases h2 : x ≤ b
    · have r : Hid (decide (a ≤ x ∧ x ≤ b) = true) := decide_eq_true ⟨h1, h2⟩
      go_enter Try.func85, Try.ntmps85
      go_wp2
      go_ret
      first | exact ⟨rfl, rfl⟩ | exact ⟨bool_end r.out.symm, rfl⟩
    · have r : Hid (decide (a ≤ x ∧ x ≤ b) = false) := decide_eq_false fun h => h2 h.2
      have k2 : decide (x ≤ b) = false := decide_eq_false h2
      have k3 : b < x := by omega
      go_enter Try.func85, Try.ntmps85
      go_wp2
      go_ret
      first | exact ⟨rfl, rfl⟩ | exact ⟨bool_end r.out.symm, rfl⟩
  · have r : Hid (decide (a ≤ x ∧ x ≤ b) = false) := decide_eq_false fun h => h1 h.1
    have k1 : decide (a ≤ x) = false := decide_eq_false h1
    have k3 : x < a := by omega
    go_enter Try.func85, Try.ntmps85
    go_wp2
    go_ret
    first | exact ⟨rfl, rfl⟩ | exact ⟨bool_end r.out.symm, rfl⟩

end Go.Proofs.Ytihijigbdpjcoaa
end

section
namespace Go.Proofs.Ytihijigbdpjcoaa
open Go.RowKit Go.Sort

mutual
theorem szT_le : ∀ t : Tm, szT t ≤ 1 + cntT t
  | .mk o n p ks => by
    have := szTs_le ks
    rw [szT, cntT]; omega
theorem szTs_le : ∀ ts : List Tm, szTs ts ≤ ts.length + sumT ts
  | [] => by simp [szTs]
  | t :: r => by
    have h1 := szT_le t
    have h2 := szTs_le r
    rw [szTs, sumT, List.length_cons]; omega
end

/-- The answer, and new blocks at most. -/
def BoolPost (b : Bool) (w : World) (e : Ending) (w' : World) : Prop := e = .returned (.bool b) ∧ Below w.heap.size w w'
def IntPost (n : Int) (w : World) (e : Ending) (w' : World) : Prop := e = .returned (.int .i64 n) ∧ Below w.heap.size w w'

end Go.Proofs.Ytihijigbdpjcoaa
end

