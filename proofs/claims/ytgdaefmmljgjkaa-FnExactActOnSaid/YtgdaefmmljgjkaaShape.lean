/-
  What is a term: plain words, no program is walked here.
-/
import Derived.Test.YtgdaefmmljgjkaaTm
import Derived.Test.YtgdaefmmljgjkaaPermS
namespace Go.Proofs.Ytgdaefmmljgjkaa
open Go.RowKit

def shapeB (t : Tm) : Bool :=
  if t.op = 1 then atomB t.num && (decide (t.perm.length = 0) && decide (t.kids.length = 0))
  else if t.op = 2 then decide (0 ≤ t.num ∧ t.num ≤ 11) && (decide (t.perm.length = 0) && decide ((t.kids.length : Int) = t.num % 4))
  else if t.op = 3 then atomB t.num && (decide (t.perm.length = 0) && decide (t.kids.length = 1))
  else if t.op = 4 then decide (0 ≤ t.num ∧ t.num ≤ 9) && (permB t.perm && decide (t.kids.length = 0))
  else false

mutual
/-- Right, however great. -/
def goodT : Tm → Bool
  | .mk o n p ks => shapeB (.mk o n p ks) && goodTs ks
def goodTs : List Tm → Bool
  | [] => true
  | t :: r => goodT t && goodTs r
end

theorem goodT_eq (t : Tm) : goodT t = (shapeB t && goodTs t.kids) := by cases t; simp [goodT, Tm.kids]
theorem goodTs_append : ∀ a b : List Tm, goodTs (a ++ b) = (goodTs a && goodTs b)
  | [], b => by simp [goodTs]
  | t :: r, b => by rw [List.cons_append, goodTs, goodTs, goodTs_append r b, Bool.and_assoc]
theorem goodTs_next {ts : List Tm} {k : Nat} (h : k < ts.length) : goodTs (ts.take (k + 1)) = (goodTs (ts.take k) && goodT (tmAt ts k)) := by
  rw [tm_take_next h, goodTs_append]
  simp [goodTs]
theorem goodTs_no : ∀ {ts : List Tm} {i : Nat}, i < ts.length → goodT (tmAt ts i) = false → goodTs ts = false
  | [], i, h, _ => by simp at h
  | t :: r, 0, _, h => by rw [tmAt_cons_zero] at h; simp [goodTs, h]
  | t :: r, i + 1, hi, h => by
    rw [tmAt_cons_succ] at h
    simp [goodTs, goodTs_no (by simpa using hi) h]
theorem goodTs_at : ∀ {ts : List Tm} {i : Nat}, goodTs ts = true → i < ts.length → goodT (tmAt ts i) = true
  | [], i, _, h => by simp at h
  | t :: r, 0, h, _ => by simp only [goodTs, Bool.and_eq_true] at h; exact h.1
  | t :: r, i + 1, h, hi => by
    simp only [goodTs, Bool.and_eq_true] at h
    rw [tmAt_cons_succ]
    exact goodTs_at (ts := r) h.2 (by simpa using hi)

/-- A term. -/
def isTermB (t : Tm) : Bool := goodT t && decide (szT t ≤ 60)

end Go.Proofs.Ytgdaefmmljgjkaa
