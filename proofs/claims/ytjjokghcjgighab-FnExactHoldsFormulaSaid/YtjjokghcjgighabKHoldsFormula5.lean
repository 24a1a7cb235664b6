/-
  The size of a term that the laws count, as contracts. The laws' own copy of a term, as contracts.
-/
import Derived.Test.YtjjokghcjgighabKHoldsFormula2
import Derived.Test.YtjjokghcjgighabKHoldsFormula4
import Derived.BigQuiet
import Derived.Lib.QuietBelow
section
namespace Go.Proofs.Ytjjokghcjgighab
open Go.RowKit Go.Sort

/-- What is left of a bound. -/
def leftR (left : Int) (c : Nat) : Int := if (c : Int) ≤ left then left - c else -1

theorem leftR_yes {left : Int} {c : Nat} (h : (c : Int) ≤ left) : leftR left c = left - c := by simp [leftR, h]
theorem leftR_no {left : Int} {c : Nat} (h : ¬ (c : Int) ≤ left) : leftR left c = -1 := by simp [leftR, h]

/-- The answer, and new blocks at most. -/
def LeftPost (left : Int) (c : Nat) (w : World) (e : Ending) (w' : World) : Prop := e = .returned (.int .i64 (leftR left c)) ∧ Below w.heap.size w w'

mutual
/-- .. anywhere within. -/
def Short : Tm → Prop
  | .mk _ _ p ks => p.length ≤ maxLen ∧ ks.length ≤ maxLen ∧ Shorts ks
def Shorts : List Tm → Prop
  | [] => True
  | t :: r => Short t ∧ Shorts r
end

end Go.Proofs.Ytjjokghcjgighab
end

section
namespace Go.Proofs.Ytjjokghcjgighab
open Go.RowKit Go.Sort

theorem OwnL.setOther {w : World} {S : List Nat} {vs : List Value} {ms : List Mem} (h : OwnL w S vs ms) (a : Addr) (u : Value) (hb : ∀ b ∈ S, b ≠ a.block) : OwnL (w.setCell a u) S vs ms :=
  h.alike fun b hb' => Below.heap_setCell w a u b (hb b hb')

theorem take_set4 {xs : List Value} {j : Nat} {a b c d : Value} (h : j + 4 ≤ xs.length) : ((((xs.set j a).set (j + 1) b).set (j + 2) c).set (j + 3) d).take (j + 4) = xs.take j ++ [a, b, c, d] := by
  apply List.ext_getElem?
  intro i
  rw [List.getElem?_take]
  by_cases hi : i < j + 4
  · rw [if_pos hi]
    by_cases h1 : i < j
    · rw [List.getElem?_append_left (by rw [List.length_take]; omega), List.getElem?_take, if_pos h1]
      simp [show ¬ j + 3 = i by omega, show ¬ j + 2 = i by omega, show ¬ j + 1 = i by omega, show ¬ j = i by omega]
    · rw [List.getElem?_append_right (by rw [List.length_take]; omega), List.length_take, show min j xs.length = j by omega]
      have hc : i = j ∨ i = j + 1 ∨ i = j + 2 ∨ i = j + 3 := by omega
      rcases hc with rfl | rfl | rfl | rfl
      · simp [show i < xs.length by omega]
      · simp [show j + 1 < xs.length by omega, show j + 1 - j = 1 by omega]
      · simp [show j + 2 < xs.length by omega, show j + 2 - j = 2 by omega]
      · simp [show j + 3 < xs.length by omega, show j + 3 - j = 3 by omega]
  · rw [if_neg hi, List.getElem?_eq_none (by rw [List.length_append, List.length_take]; simp; omega)]

theorem OwnL.kept {w w' : World} {S : List Nat} {vs : List Value} {ms : List Mem} {row : Option Nat} (h : OwnL w S vs ms) (hg : w.grownBy w' row) (hn : ∀ b ∈ S, some b ≠ row) : OwnL w' S vs ms :=
  h.alike fun b hb => hg.block b (h.lt b hb) (hn b hb)

end Go.Proofs.Ytjjokghcjgighab
end

